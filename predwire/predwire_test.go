package predwire_test

import (
	"bytes"
	"slices"
	"testing"

	"offprint/api"
	"offprint/octet"
	"offprint/pred"
	"offprint/predwire"
	"offprint/sample"
)

func n(op, no int) api.Node               { return api.Node{Op: op, N: no} }
func nv(op, no int, v api.Value) api.Node { return api.Node{Op: op, N: no, V: v} }
func num(n int) api.Value                 { return api.Value{Kind: api.Num, N: n} }
func text(s string) api.Value             { return api.Value{Kind: api.Text, S: s} }

var deep = append(slices.Repeat([]api.Node{n(api.Not, 0)}, 8), n(api.All, 0))

// P16.1
func TestPut(t *testing.T) {
	for _, c := range []struct {
		l    []api.Node
		want []byte
	}{
		{[]api.Node{n(api.Not, 0), n(api.Label, 3)}, []byte{2, 10, 3, 3}}, {[]api.Node{n(api.All, 0)}, []byte{1, 1}}, {[]api.Node{n(api.Never, 0)}, []byte{1, 2}}, {[]api.Node{n(api.Member, 15)}, []byte{1, 4, 15}}, {[]api.Node{n(api.Has, 7)}, []byte{1, 5, 7}},
		{[]api.Node{n(api.Or, 0), nv(api.Equals, 1, num(300)), n(api.And, 0), nv(api.Less, 2, text("a")), n(api.Not, 0), nv(api.More, 3, num(0))}, []byte{6, 12, 6, 1, 1, 172, 2, 11, 7, 2, 2, 1, 'a', 10, 8, 3, 1, 0}},
		{[]api.Node{nv(api.Holds, 0, text(""))}, []byte{1, 9, 0, 2, 0}},
		{nil, nil}, {deep, nil}, {[]api.Node{n(api.Label, 16)}, nil}, {[]api.Node{n(api.And, 0)}, nil}, {slices.Repeat([]api.Node{n(api.All, 0)}, 32), nil},
	} {
		room := []byte{99, 98, 97, 96, 95, 94, 93, 92, 91}
		got := predwire.Put(room[:1], c.l)
		if !bytes.Equal(got, append([]byte{99}, c.want...)) {
			t.Errorf("Put(%v) = %v", c.l, got)
		}
		if got[0] = 1; !bytes.Equal(room, []byte{99, 98, 97, 96, 95, 94, 93, 92, 91}) {
			t.Errorf("Put touches what it was given")
		}
	}
}

// P16.2
func TestReadErrors(t *testing.T) {
	notNine := append([]byte{9}, append(bytes.Repeat([]byte{10}, 8), 1)...)
	for _, c := range []struct {
		b    []byte
		err  api.Errno
		left int
	}{
		{nil, api.ErrShort, 0}, {[]byte{0, 1}, api.ErrForm, 1}, {[]byte{32, 1}, api.ErrLong, 2}, {[]byte{1}, api.ErrShort, 0}, {[]byte{1, 13}, api.ErrLong, 1}, {[]byte{1, 0, 5}, api.ErrForm, 1}, {[]byte{2, 10, 0, 1}, api.ErrForm, 1},
		{[]byte{1, 3, 16}, api.ErrLong, 1}, {[]byte{1, 4, 16}, api.ErrLong, 1}, {[]byte{1, 5, 8}, api.ErrLong, 1}, {[]byte{1, 6, 8, 1, 1}, api.ErrLong, 3}, {[]byte{1, 9, 8, 1, 1}, api.ErrLong, 3}, {[]byte{1, 7}, api.ErrShort, 0},
		{[]byte{1, 6, 0}, api.ErrShort, 0}, {[]byte{1, 6, 0, 3}, api.ErrLong, 1}, {[]byte{1, 6, 0, 0, 7}, api.ErrForm, 1}, {[]byte{1, 7, 0, 0, 7}, api.ErrForm, 1}, {[]byte{1, 8, 0, 0, 7}, api.ErrForm, 1}, {[]byte{1, 9, 0, 0, 7}, api.ErrForm, 1}, {[]byte{1, 9, 0, 1, 5, 7}, api.ErrForm, 1}, {[]byte{1, 6, 0, 2, 25}, api.ErrLong, 1},
		{[]byte{2, 1, 1, 7}, api.ErrForm, 1}, {[]byte{1, 10, 1}, api.ErrForm, 1}, {[]byte{2, 11, 1, 1}, api.ErrForm, 1}, {[]byte{3, 10, 1, 1}, api.ErrForm, 0}, {notNine, api.ErrDeep, 0}, {[]byte{2, 1, 13}, api.ErrLong, 1}, {[]byte{3, 11, 6, 0, 0, 5, 8}, api.ErrForm, 2}, {[]byte{2, 9, 0, 1, 5, 13}, api.ErrForm, 1},
		{append([]byte{31}, bytes.Repeat([]byte{1}, 31)...), api.ErrForm, 0}, {append(append([]byte{10}, bytes.Repeat([]byte{10}, 9)...), 10), api.ErrForm, 0},
	} {
		r := octet.New(c.b)
		if l := predwire.Read(r); l != nil || r.Err() != c.err || r.Left() != c.left {
			t.Errorf("Read of %v = %v, %d, left %d", c.b, l, r.Err(), r.Left())
		}
	}
	r := octet.New([]byte{1, 1})
	r.Fail(api.ErrPower)
	if predwire.Read(r) != nil || r.Err() != api.ErrPower || r.Left() != 2 || predwire.Read(nil) != nil {
		t.Errorf("Read of a reader that had an error, or of none")
	}
}

// P16.3
func TestGreatest(t *testing.T) {
	long := slices.Concat(slices.Repeat([]api.Node{n(api.And, 0), n(api.Or, 0)}, 3), []api.Node{n(api.Label, 15)})
	for range 6 {
		long = append(long, n(api.Has, 7))
	}
	full := []api.Node{n(api.All, 0)}
	for range 4 {
		full = pred.Join(api.Or, full, full)
	}
	for _, l := range [][]api.Node{{n(api.Label, 15)}, {n(api.Member, 15)}, {n(api.Has, 7)}, {nv(api.Equals, 7, num(api.MaxNum))}, {nv(api.Less, 7, num(0))}, {nv(api.More, 7, text("a"))}, {nv(api.Holds, 7, text("123456789012345678901234"))}, long, full, deep[1:]} {
		r := octet.New(predwire.Put(nil, l))
		if got := predwire.Read(r); !slices.Equal(got, l) || r.Left() != 0 {
			t.Errorf("%v is read as %v, %d", l, got, r.Err())
		}
	}
}

// P16.3
func TestWhatWasPutIsRead(t *testing.T) {
	s := sample.New(16)
	for range 3000 {
		l := s.Fit()
		r := octet.New(append(predwire.Put(nil, l), 1, 200))
		if got := predwire.Read(r); !slices.Equal(got, l) || r.Left() != 2 || r.Err() != api.OK {
			t.Fatalf("%v is read as %v, %d", l, got, r.Err())
		}
	}
}

// P16.3: of any bytes.
func TestWhatIsReadMayBe(t *testing.T) {
	s := sample.New(17)
	read := 0
	for range 30000 {
		b := predwire.Put(nil, s.Fit())
		for range s.Below(3) {
			b[s.Below(len(b))] = byte(s.Below(14))
		}
		r := octet.New(b)
		if l := predwire.Read(r); r.Err() == api.OK {
			read++
			if pred.Check(l) != api.OK || !bytes.Equal(predwire.Put(nil, l), b[:len(b)-r.Left()]) {
				t.Fatalf("%v is read as %v", b, l)
			}
		}
	}
	if read < 1000 {
		t.Errorf("too few were read: %d", read)
	}
}
