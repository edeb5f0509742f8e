package token_test

import (
	"bytes"
	"math"
	"testing"

	"offprint/api"
	"offprint/octet"
	"offprint/sample"
	"offprint/token"
)

func tok(dev, epoch, seq, cursor int) api.Token {
	return api.Token{Dev: dev, Epoch: epoch, Seq: seq, Cursor: cursor}
}

var wrong = []api.Token{{}, tok(-1, 1, 0, 0), tok(6, 1, 0, 0), tok(0, 0, 0, 0), tok(0, -1, 0, 0), tok(0, api.MaxNum+1, 0, 0), tok(0, 1, -1, 0), tok(0, 1, api.MaxNum+1, 0), tok(0, 1, 0, -1), tok(0, 1, 0, api.MaxID+1), tok(math.MinInt, 1, 0, api.MaxID), tok(0, 0, 0, api.MaxID)}

// P26.1
func TestCheck(t *testing.T) {
	for _, x := range []api.Token{tok(0, 1, 0, 0), tok(5, api.MaxNum, api.MaxNum, api.MaxID), tok(2, 3, 4, api.MaxID-1)} {
		if !token.Check(x) || token.Whole(x) != (x.Cursor == api.MaxID) {
			t.Errorf("Check(%v), Whole %v", x, token.Whole(x))
		}
	}
	for _, x := range wrong {
		if token.Check(x) || token.Whole(x) || token.Show(x) != "" || !bytes.Equal(token.Put([]byte{9}, x), []byte{9}) {
			t.Errorf("%v may be", x)
		}
	}
	if token.First(2, 3, 4) != tok(2, 3, 4, 0) || token.First(-1, 0, 9) != tok(-1, 0, 9, 0) {
		t.Errorf("First")
	}
}

// P26.1
func TestGoes(t *testing.T) {
	a := tok(2, 3, 4, 5)
	for _, b := range []api.Token{a, tok(2, 3, 5, 5), tok(2, 3, 4, 6), tok(2, 3, 9, api.MaxID)} {
		if !token.Goes(a, b) || a != b && token.Goes(b, a) {
			t.Errorf("Goes to %v", b)
		}
	}
	for _, b := range append(wrong, tok(1, 3, 4, 5), tok(3, 3, 4, 5), tok(2, 2, 4, 5), tok(2, 4, 4, 5), tok(2, 3, 3, 6), tok(2, 3, 5, 4), tok(2, 3, 5, api.MaxID+1)) {
		if token.Goes(a, b) {
			t.Errorf("Goes to %v", b)
		}
	}
	for _, b := range wrong {
		if token.Goes(b, b) || token.Goes(b, a) {
			t.Errorf("Goes from %v", b)
		}
	}
}

// P26.2
func TestBytes(t *testing.T) {
	room := []byte{9, 8, 7, 6, 5, 4}
	got := token.Put(room[:1], tok(2, 1, 300, 7))
	if !bytes.Equal(got, []byte{9, 2, 1, 172, 2, 7}) || !bytes.Equal(room, []byte{9, 8, 7, 6, 5, 4}) {
		t.Errorf("Put = %v", got)
	}
	num := func(l ...int) (b []byte) {
		for _, n := range l {
			b = octet.Num(b, n)
		}
		return b
	}
	for _, c := range []struct {
		b    []byte
		err  api.Errno
		left int
	}{
		{nil, api.ErrShort, 0}, {num(6, 1, 0, 0), api.ErrLong, 4}, {num(0, 0, 0, 0), api.ErrForm, 2}, {num(0, 1), api.ErrShort, 0}, {num(0, 1, 5), api.ErrShort, 0}, {num(5, 1, 5, api.MaxID+1), api.ErrLong, 5},
		{[]byte{0, 129, 128, 128, 128, 128, 32, 0, 0}, api.ErrLong, 8}, {[]byte{0, 1, 129, 128, 128, 128, 128, 32, 0}, api.ErrLong, 7},
	} {
		r := octet.New(c.b)
		if x := token.Read(r); x != (api.Token{}) || r.Err() != c.err || r.Left() != c.left {
			t.Errorf("Read of %v = %v, %d, left %d", c.b, x, r.Err(), r.Left())
		}
	}
	for _, x := range []api.Token{tok(5, api.MaxNum, api.MaxNum, api.MaxID), tok(0, 1, 0, 0)} {
		if got := token.Read(octet.New(token.Put(nil, x))); got != x {
			t.Errorf("%v is read as %v", x, got)
		}
	}
	r := octet.New(num(0, 1, 1, 1))
	r.Fail(api.ErrBad)
	if token.Read(r) != (api.Token{}) || r.Left() != 4 || r.Err() != api.ErrBad || token.Read(nil) != (api.Token{}) {
		t.Errorf("Read of a reader that had an error, or of none")
	}
}

// P26.2
func TestTexts(t *testing.T) {
	for s, x := range map[string]api.Token{"2.1.7.all": tok(2, 1, 7, api.MaxID), "0.1.0.0": tok(0, 1, 0, 0), "5.1099511627776.1099511627776.1073741823": tok(5, api.MaxNum, api.MaxNum, api.MaxID-1), "1.10.20.30": tok(1, 10, 20, 30)} {
		if got := token.Show(x); got != s {
			t.Errorf("Show(%v) = %q", x, got)
		}
		if got, ok := token.Parse(s); !ok || got != x {
			t.Errorf("Parse(%q) = %v, %v", s, got, ok)
		}
	}
	for _, s := range []string{"", ".", "...", "0.1.0", "0.1.0.0.0", "6.1.0.0", "0.0.0.0", "0.1.0.1073741824", "0.1.0.1073741825", "0.1.0.", ".1.0.0", "0.1.all.0", "all.1.0.0", "0.1.0.ALL", "0.1.0.all ", " 0.1.0.0", "00.1.0.0", "0.01.0.0", "0.1.0.00", "-1.1.0.0", "0.1.0.-1", "0.1.1099511627777.0", "0,1,0,0", "0.1.0.all.all", "off"} {
		if got, ok := token.Parse(s); ok || got != (api.Token{}) {
			t.Errorf("Parse(%q) = %v, %v", s, got, ok)
		}
	}
}

// P26.3, P26.4
func TestAnyTokens(t *testing.T) {
	s := sample.New(26)
	some := func() api.Token {
		return tok(s.Below(2), 1+s.Below(2), s.Below(3), []int{0, 5, api.MaxID}[s.Below(3)])
	}
	for range 5000 {
		a, b, c := some(), some(), some()
		r := octet.New(append(token.Put(nil, a), 255))
		if token.Read(r) != a || r.Left() != 1 || r.Err() != api.OK {
			t.Fatalf("%v is not read of its bytes", a)
		}
		if x, ok := token.Parse(token.Show(a)); !ok || x != a {
			t.Fatalf("%v is not read of its text", a)
		}
		if !token.Goes(a, a) || token.Goes(a, b) && token.Goes(b, c) && !token.Goes(a, c) {
			t.Fatalf("Goes of %v, %v, %v", a, b, c)
		}
	}
}
