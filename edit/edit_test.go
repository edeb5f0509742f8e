package edit_test

import (
	"bytes"
	"math"
	"testing"

	"offprint/api"
	"offprint/edit"
	"offprint/octet"
	"offprint/sample"
)

var (
	patch = api.Patch{Mask: 1, F: [8]api.Value{{Kind: api.Num, N: 7}}}
	bad   = api.Patch{Mask: 1, Labels: 1}
	odd   = api.Patch{Mask: 512}
)

var may = []struct {
	e       api.Edit
	b       []byte
	touches int
}{
	{api.Edit{Kind: api.Create, Patch: patch}, []byte{1, 1, 1, 7}, 0}, {api.Edit{Kind: api.Write, ID: 5, Patch: patch}, []byte{2, 5, 1, 1, 7}, 5}, {api.Edit{Kind: api.Delete, ID: 300}, []byte{3, 172, 2}, 300},
	{api.Edit{Kind: api.Open, Group: 15}, []byte{4, 15}, 0}, {api.Edit{Kind: api.Close}, []byte{5, 0}, 0}, {api.Edit{Kind: api.Join, Group: 2, ID: 5}, []byte{6, 2, 5}, 5}, {api.Edit{Kind: api.Quit, Group: 15, ID: api.MaxID - 1}, []byte{7, 15, 255, 255, 255, 255, 3}, api.MaxID - 1},
}

// P19.1, P19.2
func TestEditsThatMayBe(t *testing.T) {
	for _, c := range may {
		if edit.Check(c.e) != api.OK || edit.Touches(c.e) != c.touches {
			t.Errorf("Check(%v) = %d, Touches %d", c.e, edit.Check(c.e), edit.Touches(c.e))
		}
		room := []byte{99, 98, 97, 96, 95, 94, 93, 92, 91, 90}
		got := edit.Put(room[:1], c.e)
		if !bytes.Equal(got, append([]byte{99}, c.b...)) || !bytes.Equal(room, []byte{99, 98, 97, 96, 95, 94, 93, 92, 91, 90}) {
			t.Errorf("Put(%v) = %v", c.e, got)
		}
		r := octet.New(append(c.b, 4, 4))
		if e := edit.Read(r); e != c.e || r.Left() != 2 || r.Err() != api.OK {
			t.Errorf("Read of %v = %v, %d", c.b, e, r.Err())
		}
	}
}

// P19.1
func TestEditsThatMayNotBe(t *testing.T) {
	wrong := map[api.Edit]api.Errno{
		{}: api.ErrArg, {Kind: -1}: api.ErrArg, {Kind: 8}: api.ErrArg, {Kind: math.MaxInt}: api.ErrArg, {Kind: math.MinInt}: api.ErrArg, {Kind: 21, ID: 1}: api.ErrArg,
		{Kind: api.Create}: api.ErrMask, {Kind: api.Create, Patch: odd}: api.ErrMask, {Kind: api.Create, Patch: bad}: api.ErrArg, {Kind: api.Write, ID: 1}: api.ErrMask, {Kind: api.Write, ID: 1, Patch: bad}: api.ErrArg, {Kind: api.Write, ID: 0, Patch: odd}: api.ErrArg,
		{Kind: api.Create, Group: 1, Patch: odd}: api.ErrArg, {Kind: api.Create, ID: 1, Patch: odd}: api.ErrArg,
	}
	has := map[int][3]bool{api.Create: {false, false, true}, api.Write: {false, true, true}, api.Delete: {false, true, false}, api.Open: {true, false, false}, api.Close: {true, false, false}, api.Join: {true, true, false}, api.Quit: {true, true, false}}
	for _, c := range may {
		if h := has[c.e.Kind]; h[0] {
			for _, g := range []int{-1, 16, math.MaxInt} {
				e := c.e
				e.Group = g
				wrong[e] = api.ErrArg
			}
		} else {
			e := c.e
			e.Group = 3
			wrong[e] = api.ErrArg
		}
		if has[c.e.Kind][1] {
			for _, id := range []int{0, -1, api.MaxID} {
				e := c.e
				e.ID = id
				wrong[e] = api.ErrArg
			}
		} else {
			e := c.e
			e.ID = 3
			wrong[e] = api.ErrArg
		}
		if !has[c.e.Kind][2] {
			for _, p := range []api.Patch{patch, {Labels: 1}, {F: [8]api.Value{7: {S: "x"}}}} {
				e := c.e
				e.Patch = p
				wrong[e] = api.ErrArg
			}
		}
	}
	for e, want := range wrong {
		if got := edit.Check(e); got != want {
			t.Errorf("Check(%v) = %d, want %d", e, got, want)
		}
		if got := edit.Put([]byte{9}, e); !bytes.Equal(got, []byte{9}) || edit.Touches(e) != 0 {
			t.Errorf("Put(%v) = %v, Touches %d", e, got, edit.Touches(e))
		}
	}
}

// P19.2
func TestReadErrors(t *testing.T) {
	for _, c := range []struct {
		b    []byte
		err  api.Errno
		left int
	}{
		{nil, api.ErrShort, 0}, {[]byte{0, 1}, api.ErrForm, 1}, {[]byte{8, 1}, api.ErrLong, 2}, {[]byte{4, 16}, api.ErrLong, 1}, {[]byte{5, 16}, api.ErrLong, 1}, {[]byte{4}, api.ErrShort, 0}, {[]byte{6, 1, 0, 1}, api.ErrForm, 1}, {[]byte{6, 16, 0}, api.ErrLong, 2}, {[]byte{7, 1}, api.ErrShort, 0},
		{[]byte{3, 0}, api.ErrForm, 0}, {[]byte{3, 128, 128, 128, 128, 4}, api.ErrLong, 5}, {[]byte{2, 0, 0}, api.ErrForm, 1}, {[]byte{2, 1, 0, 5}, api.ErrForm, 1}, {[]byte{1, 0, 5}, api.ErrForm, 1}, {[]byte{1, 128, 4}, api.ErrLong, 2}, {[]byte{1, 1}, api.ErrShort, 0}, {[]byte{1, 1, 9}, api.ErrLong, 1},
	} {
		r := octet.New(c.b)
		if e := edit.Read(r); e != (api.Edit{}) || r.Err() != c.err || r.Left() != c.left {
			t.Errorf("Read of %v = %v, %d, left %d", c.b, e, r.Err(), r.Left())
		}
	}
	r := octet.New([]byte{4, 1})
	r.Fail(api.ErrBad)
	if edit.Read(r) != (api.Edit{}) || r.Err() != api.ErrBad || r.Left() != 2 || edit.Read(nil) != (api.Edit{}) {
		t.Errorf("Read of a reader that had an error, or of none")
	}
}

// P19.3
func TestWhatIsReadMayBe(t *testing.T) {
	s := sample.New(19)
	read := 0
	for range 30000 {
		e := s.Edit(300)
		b := edit.Put(nil, e)
		if r := octet.New(append(b, 255)); edit.Read(r) != e || r.Left() != 1 {
			t.Fatalf("%v is not read", e)
		}
		for range s.Below(3) {
			b[s.Below(len(b))] = byte(s.Below(9))
		}
		r := octet.New(b)
		if e := edit.Read(r); r.Err() == api.OK {
			read++
			if edit.Check(e) != api.OK || !bytes.Equal(edit.Put(nil, e), b[:len(b)-r.Left()]) {
				t.Fatalf("%v is read as %v", b, e)
			}
		}
	}
	if read < 1000 {
		t.Errorf("too few were read: %d", read)
	}
}
