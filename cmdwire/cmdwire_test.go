package cmdwire_test

import (
	"bytes"
	"slices"
	"testing"

	"offprint/api"
	"offprint/cmdwire"
	"offprint/core"
	"offprint/octet"
	"offprint/sample"
)

var (
	seven = api.Patch{Mask: 1, F: [8]api.Value{{Kind: api.Num, N: 7}}}
	not3  = []api.Node{{Op: api.Not}, {Op: api.Label, N: 3}}
)

func edit(e api.Edit) api.Cmd { return api.Cmd{Kind: api.DoEdit, Edit: e} }

var may = []struct {
	c api.Cmd
	b []byte
}{
	{edit(api.Edit{Kind: api.Create, Patch: seven}), []byte{1, 1, 1, 1, 7}}, {edit(api.Edit{Kind: api.Join, Group: 2, ID: 5}), []byte{1, 6, 2, 5}}, {api.Cmd{Kind: api.DoTrim, Keep: 300}, []byte{5, 172, 2}}, {api.Cmd{Kind: api.DoTrim}, []byte{5, 0}}, {api.Cmd{Kind: api.DoLeave, Dev: 2, Req: 7}, []byte{4, 2, 7}},
	{api.Cmd{Kind: api.DoPut, Dev: 5, Req: 1, ID: 300, Base: 4, Patch: seven}, []byte{2, 5, 1, 172, 2, 4, 1, 1, 7}}, {api.Cmd{Kind: api.DoSub, Dev: 0, Req: 9, Filter: not3, Mask: 257}, []byte{3, 0, 9, 2, 10, 3, 3, 129, 2}},
}

// P33.1, P33.2
func TestBytes(t *testing.T) {
	room := []byte{9, 8, 7}
	for _, x := range may {
		if got := cmdwire.Put(room[:1], x.c); !bytes.Equal(got, append([]byte{9}, x.b...)) || room[1] != 8 {
			t.Errorf("Put(%v) = %v", x.c, got)
		}
		if got, err := cmdwire.Decode(x.b); err != api.OK || !cmdwire.Same(got, x.c) {
			t.Errorf("Decode of %v = %v, %d", x.b, got, err)
		}
		if got, err := cmdwire.Decode(append(slices.Clone(x.b), 1)); err != api.ErrForm || !cmdwire.Same(got, api.Cmd{}) {
			t.Errorf("Decode of %v and more = %v, %d", x.b, got, err)
		}
		r := octet.New(append(slices.Clone(x.b), 1, 255))
		if got := cmdwire.Read(r); !cmdwire.Same(got, x.c) || r.Left() != 2 || r.Err() != api.OK {
			t.Errorf("Read of %v = %v, %d", x.b, got, r.Err())
		}
		for n := range x.b {
			if got, err := cmdwire.Decode(x.b[:n]); err != api.ErrShort || !cmdwire.Same(got, api.Cmd{}) {
				t.Errorf("Decode of %v = %v, %d", x.b[:n], got, err)
			}
		}
	}
	for _, c := range []api.Cmd{{}, {Kind: 6}, {Kind: api.DoTrim, Keep: -1}, {Kind: api.DoTrim, Dev: 1}, edit(api.Edit{}), {Kind: api.DoLeave, Dev: 6, Req: 1}, {Kind: api.DoLeave}, {Kind: api.DoSub, Req: 1}, {Kind: api.DoPut, Req: 1, ID: 1, Base: 1}} {
		got := cmdwire.Put(room[:1], c)
		if !bytes.Equal(got, []byte{9}) {
			t.Errorf("Put(%v) = %v", c, got)
		}
		if got[0] = 1; room[0] != 9 {
			t.Errorf("Put shares what it was given")
		}
	}
}

// P33.1
func TestSame(t *testing.T) {
	a := func() api.Cmd { return api.Cmd{Kind: 1, Filter: slices.Clone(not3)} }
	if !cmdwire.Same(a(), a()) || !cmdwire.Same(api.Cmd{}, api.Cmd{Filter: []api.Node{}}) {
		t.Errorf("Same of like ones")
	}
	for i, change := range []func(c *api.Cmd){
		func(c *api.Cmd) { c.Kind++ }, func(c *api.Cmd) { c.Edit.ID++ }, func(c *api.Cmd) { c.Edit.Patch.F[7].N++ }, func(c *api.Cmd) { c.Dev++ }, func(c *api.Cmd) { c.Req++ }, func(c *api.Cmd) { c.ID++ }, func(c *api.Cmd) { c.Base++ }, func(c *api.Cmd) { c.Keep++ }, func(c *api.Cmd) { c.Patch.Labels++ }, func(c *api.Cmd) { c.Filter[1].N++ }, func(c *api.Cmd) { c.Filter = c.Filter[:1] }, func(c *api.Cmd) { c.Mask++ },
	} {
		c := a()
		if change(&c); cmdwire.Same(c, a()) || cmdwire.Same(a(), c) {
			t.Errorf("Same does not see the change %d", i)
		}
	}
}

// P33.2
func TestReadErrors(t *testing.T) {
	for i, x := range []struct {
		b    []byte
		err  api.Errno
		left int
	}{
		{nil, api.ErrShort, 0}, {[]byte{0, 1}, api.ErrForm, 1}, {[]byte{6, 1}, api.ErrLong, 2}, {[]byte{1, 0, 1}, api.ErrForm, 1}, {[]byte{1, 8}, api.ErrLong, 1}, {[]byte{1, 6, 16}, api.ErrLong, 1}, {[]byte{5, 129, 128, 128, 128, 128, 32}, api.ErrLong, 6}, {[]byte{4, 6, 1}, api.ErrLong, 2}, {[]byte{4, 5, 0, 3}, api.ErrForm, 1}, {[]byte{4, 5, 129, 128, 128, 128, 128, 32}, api.ErrLong, 6},
		{[]byte{2, 6}, api.ErrLong, 1}, {[]byte{2, 0, 0, 3}, api.ErrForm, 1}, {[]byte{2, 0, 1, 0, 3}, api.ErrForm, 1}, {[]byte{2, 0, 1, 128, 128, 128, 128, 4}, api.ErrLong, 5}, {[]byte{2, 0, 1, 1, 0, 3}, api.ErrForm, 1}, {[]byte{2, 0, 1, 1, 129, 128, 128, 128, 128, 32}, api.ErrLong, 6}, {[]byte{2, 0, 1, 1, 1, 0, 3}, api.ErrForm, 1}, {[]byte{2, 0, 1, 1, 1, 1, 9}, api.ErrLong, 1},
		{[]byte{3, 0, 0}, api.ErrForm, 0}, {[]byte{3, 0, 1, 0, 3}, api.ErrForm, 1}, {[]byte{3, 0, 1, 1, 1, 128, 4}, api.ErrLong, 2}, {[]byte{3, 0, 1, 2, 1, 1, 7}, api.ErrForm, 1},
	} {
		r := octet.New(x.b)
		if c := cmdwire.Read(r); !cmdwire.Same(c, api.Cmd{}) || r.Err() != x.err || r.Left() != x.left {
			t.Errorf("Read %d = %v, %d, left %d", i, c, r.Err(), r.Left())
		}
		if c, err := cmdwire.Decode(x.b); !cmdwire.Same(c, api.Cmd{}) || err != x.err {
			t.Errorf("Decode %d = %v, %d", i, c, err)
		}
	}
	r := octet.New([]byte{5, 0})
	r.Fail(api.ErrPower)
	if c := cmdwire.Read(r); !cmdwire.Same(c, api.Cmd{}) || r.Err() != api.ErrPower || r.Left() != 2 || !cmdwire.Same(cmdwire.Read(nil), api.Cmd{}) {
		t.Errorf("Read of a reader that had an error, or of none")
	}
}

// P33.3
func TestGreatest(t *testing.T) {
	for _, c := range []api.Cmd{{Kind: api.DoTrim, Keep: api.MaxNum}, {Kind: api.DoLeave, Dev: 5, Req: api.MaxNum}, {Kind: api.DoPut, Dev: 5, Req: api.MaxNum, ID: api.MaxID - 1, Base: api.MaxNum, Patch: seven}, {Kind: api.DoSub, Dev: 5, Req: api.MaxNum, Filter: not3, Mask: api.AllMask}} {
		if got, err := cmdwire.Decode(cmdwire.Put(nil, c)); err != api.OK || !cmdwire.Same(got, c) {
			t.Errorf("%v is decoded as %v, %d", c, got, err)
		}
	}
}

// P33.3
func TestAnyCommands(t *testing.T) {
	s := sample.New(33)
	read := 0
	for range 20000 {
		c := s.Cmd(300, 300)
		b := cmdwire.Put(nil, c)
		r := octet.New(append(bytes.Clone(b), 0, 255))
		if got := cmdwire.Read(r); !cmdwire.Same(got, c) || r.Left() != 2 || r.Err() != api.OK {
			t.Fatalf("%v is read as %v", c, got)
		}
		for range 1 + s.Below(2) {
			b[s.Below(len(b))] = byte(s.Below(9))
		}
		r = octet.New(b)
		if got := cmdwire.Read(r); r.Err() == api.OK {
			read++
			if !core.Check(got) || !bytes.Equal(cmdwire.Put(nil, got), b[:len(b)-r.Left()]) {
				t.Fatalf("%v is read as %v", b, got)
			}
		}
	}
	if read < 1000 {
		t.Errorf("too few were read: %d", read)
	}
}
