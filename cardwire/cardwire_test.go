package cardwire_test

import (
	"bytes"
	"strings"
	"testing"

	"offprint/api"
	"offprint/card"
	"offprint/cardwire"
	"offprint/octet"
	"offprint/sample"
	"offprint/value"
)

func num(n int) api.Value     { return api.Value{Kind: api.Num, N: n} }
func text(s string) api.Value { return api.Value{Kind: api.Text, S: s} }

// P8.1
func TestBytes(t *testing.T) {
	ahead := []byte{99}
	for _, c := range []struct {
		v    api.Value
		want []byte
	}{
		{api.Value{}, []byte{99, 0}}, {num(300), []byte{99, 1, 172, 2}}, {text("ab"), []byte{99, 2, 2, 'a', 'b'}}, {text(""), []byte{99, 2, 0}},
		{num(-1), ahead}, {api.Value{Kind: 3}, ahead}, {api.Value{N: 1}, ahead}, {text(strings.Repeat("x", 25)), ahead},
	} {
		if got := cardwire.PutValue(ahead, c.v); !bytes.Equal(got, c.want) {
			t.Errorf("PutValue(%v) = %v", c.v, got)
		}
	}
	if got := cardwire.PutCard(nil, api.Card{ID: 1, Ver: 2, Labels: 1, F: [8]api.Value{1: num(7)}}); !bytes.Equal(got, []byte{1, 2, 1, 2, 1, 7}) {
		t.Errorf("PutCard = %v", got)
	}
	if got := cardwire.PutCard(ahead, api.Card{ID: 200, Ver: 1, Labels: 1 << 15, F: [8]api.Value{0: text("z"), 7: num(0)}}); !bytes.Equal(got, []byte{99, 200, 1, 1, 128, 128, 2, 129, 1, 2, 1, 'z', 1, 0}) {
		t.Errorf("PutCard = %v", got)
	}
	for _, c := range []api.Card{{}, {ID: 1}, {Ver: 1}, {ID: api.MaxID, Ver: 1}, {ID: 1, Ver: 1, Labels: 1 << 16}, {ID: 1, Ver: 1, F: [8]api.Value{num(-1)}}} {
		if got := cardwire.PutCard(ahead, c); !bytes.Equal(got, ahead) {
			t.Errorf("PutCard(%v) = %v", c, got)
		}
	}
	if got := cardwire.PutPatch(ahead, api.Patch{Mask: api.LabelBit | 5, Labels: 3, F: [8]api.Value{2: num(7)}}); !bytes.Equal(got, []byte{99, 133, 2, 3, 0, 1, 7}) {
		t.Errorf("PutPatch = %v", got)
	}
	if got := cardwire.PutPatch(nil, api.Patch{Mask: 2, F: [8]api.Value{1: text("q")}}); !bytes.Equal(got, []byte{2, 2, 1, 'q'}) {
		t.Errorf("PutPatch = %v", got)
	}
	for _, p := range []api.Patch{{}, {Mask: 512}, {Mask: 1, Labels: 1}, {Mask: 1, F: [8]api.Value{1: num(1)}}} {
		if got := cardwire.PutPatch(ahead, p); !bytes.Equal(got, ahead) {
			t.Errorf("PutPatch(%v) = %v", p, got)
		}
	}
}

// 0.5: what is put is new memory.
func TestNewMemory(t *testing.T) {
	room := []byte{9, 8, 7, 6, 5, 4, 3, 2, 1, 0, 0, 0}
	before := bytes.Clone(room)
	for i, got := range [][]byte{
		cardwire.PutValue(room[:2], num(1)), cardwire.PutValue(room[:2], num(-1)), cardwire.PutCard(room[:2], api.Card{ID: 1, Ver: 1}), cardwire.PutCard(room[:2], api.Card{}),
		cardwire.PutPatch(room[:2], api.Patch{Mask: 1}), cardwire.PutPatch(room[:2], api.Patch{}),
	} {
		got[0] = 77
		if !bytes.Equal(room, before) {
			t.Errorf("call %d touches what it was given", i)
		}
	}
}

type outcome struct {
	b    []byte
	err  api.Errno
	left int
}

// P8.2
func TestValueErrors(t *testing.T) {
	for _, c := range []outcome{
		{[]byte{3}, api.ErrLong, 1}, {nil, api.ErrShort, 0}, {[]byte{1}, api.ErrShort, 0}, {[]byte{2, 25}, api.ErrLong, 1}, {[]byte{2, 2, 'a'}, api.ErrShort, 2},
		{[]byte{129, 0}, api.ErrForm, 2}, {[]byte{1, 129, 128, 128, 128, 128, 32, 5}, api.ErrLong, 7},
	} {
		r := octet.New(c.b)
		if v := cardwire.Value(r); v != (api.Value{}) || r.Err() != c.err || r.Left() != c.left {
			t.Errorf("Value of %v = %v, %d, left %d", c.b, v, r.Err(), r.Left())
		}
	}
}

// P8.2
func TestCardErrors(t *testing.T) {
	for _, c := range []outcome{
		{nil, api.ErrShort, 0}, {[]byte{0, 1, 1, 0}, api.ErrForm, 3}, {[]byte{1, 0, 1, 0}, api.ErrForm, 2}, {octet.Num(nil, api.MaxID), api.ErrLong, 5},
		{octet.Num([]byte{1}, api.MaxNum), api.ErrShort, 0}, {[]byte{1, 129, 128, 128, 128, 128, 32}, api.ErrLong, 6}, {octet.Num([]byte{1, 1}, 1<<16), api.ErrLong, 3}, {octet.Num([]byte{1, 1, 1}, 256), api.ErrLong, 2},
		{[]byte{1, 1, 1, 1, 0, 9}, api.ErrForm, 1}, {[]byte{1, 1, 1, 3, 1, 5, 0, 9}, api.ErrForm, 1}, {[]byte{1, 1, 1, 1, 3}, api.ErrLong, 1}, {[]byte{1, 1, 1, 3, 1, 5}, api.ErrShort, 0},
	} {
		r := octet.New(c.b)
		if v := cardwire.Card(r); v != (api.Card{}) || r.Err() != c.err || r.Left() != c.left {
			t.Errorf("Card of %v = %v, %d, left %d", c.b, v, r.Err(), r.Left())
		}
	}
	most := api.Card{ID: api.MaxID - 1, Ver: api.MaxNum, Labels: 1<<16 - 1}
	if got := cardwire.Card(octet.New(cardwire.PutCard(nil, most))); got != most {
		t.Errorf("the greatest card is read as %v", got)
	}
	for _, v := range []api.Value{num(api.MaxNum), num(api.MaxNum - 1), text(strings.Repeat("x", api.MaxText))} {
		if got := cardwire.Value(octet.New(cardwire.PutValue(nil, v))); got != v {
			t.Errorf("the value %v is read as %v", v, got)
		}
	}
}

// P8.2
func TestPatchErrors(t *testing.T) {
	for _, c := range []outcome{
		{nil, api.ErrShort, 0}, {[]byte{0, 1}, api.ErrForm, 1}, {octet.Num(nil, 512), api.ErrLong, 2}, {octet.Num(octet.Num(nil, 256), 1<<16), api.ErrLong, 3},
		{[]byte{128, 2}, api.ErrShort, 0}, {[]byte{3, 0}, api.ErrShort, 0}, {[]byte{3, 0, 3}, api.ErrLong, 1},
	} {
		r := octet.New(c.b)
		if v := cardwire.Patch(r); v != (api.Patch{}) || r.Err() != c.err || r.Left() != c.left {
			t.Errorf("Patch of %v = %v, %d, left %d", c.b, v, r.Err(), r.Left())
		}
	}
}

// P8.2
func TestReadersThatHadAnError(t *testing.T) {
	r := octet.New([]byte{1, 1, 0, 0, 0})
	r.Fail(api.ErrDeep)
	if cardwire.Value(r) != (api.Value{}) || cardwire.Card(r) != (api.Card{}) || cardwire.Patch(r) != (api.Patch{}) || r.Err() != api.ErrDeep || r.Left() != 5 {
		t.Errorf("a read of a reader that had an error")
	}
	if cardwire.Value(nil) != (api.Value{}) || cardwire.Card(nil) != (api.Card{}) || cardwire.Patch(nil) != (api.Patch{}) {
		t.Errorf("a read of a nil reader")
	}
}

// P8.3
func TestWhatWasPutIsRead(t *testing.T) {
	s := sample.New(8)
	for range 2000 {
		v, c, p := s.Value(), s.Card(1+s.Below(api.MaxID-1)), s.Patch()
		b := cardwire.PutPatch(cardwire.PutCard(cardwire.PutValue(nil, v), c), p)
		r := octet.New(append(b, 200, 200, 0))
		if cardwire.Value(r) != v || cardwire.Card(r) != c || cardwire.Patch(r) != p || r.Left() != 3 || r.Err() != api.OK {
			t.Fatalf("%v, %v, %v are not read", v, c, p)
		}
	}
}

// P8.3: of any bytes, what is read may be, and has just the bytes that were taken.
func TestWhatIsReadMayBe(t *testing.T) {
	s := sample.New(9)
	read := 0
	for range 30000 {
		b := cardwire.PutCard(nil, s.Card(1+s.Below(300)))
		if s.Below(2) == 0 {
			b = cardwire.PutPatch(nil, s.Patch())
		}
		for range s.Below(3) {
			b[s.Below(len(b))] = byte(s.Below(5) * 61)
		}
		r := octet.New(b)
		if c := cardwire.Card(r); r.Err() == api.OK {
			read++
			if !card.Check(c) || !bytes.Equal(cardwire.PutCard(nil, c), b[:len(b)-r.Left()]) {
				t.Fatalf("%v is read as %v", b, c)
			}
		}
		r = octet.New(b)
		if p := cardwire.Patch(r); r.Err() == api.OK {
			read++
			if card.CheckPatch(p) != api.OK || !bytes.Equal(cardwire.PutPatch(nil, p), b[:len(b)-r.Left()]) {
				t.Fatalf("%v is read as %v", b, p)
			}
		}
		r = octet.New(b)
		if v := cardwire.Value(r); r.Err() == api.OK && (!value.Check(v) || !bytes.Equal(cardwire.PutValue(nil, v), b[:len(b)-r.Left()])) {
			t.Fatalf("%v is read as %v", b, v)
		}
	}
	if read < 1000 {
		t.Errorf("too few were read: %d", read)
	}
}
