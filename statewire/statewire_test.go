package statewire_test

import (
	"bytes"
	"slices"
	"testing"

	"offprint/api"
	"offprint/card"
	"offprint/core"
	"offprint/octet"
	"offprint/sample"
	"offprint/state"
	"offprint/statewire"
)

var label1 = []api.Node{{Op: api.Label, N: 1}}

func c(id int) api.Card {
	return api.Card{ID: id, Ver: 1, Labels: 2, F: [8]api.Value{{Kind: api.Num, N: id}}}
}

// some is a state that is not Wrong, in new memory, and wire its bytes.
func some() api.State {
	s := state.New()
	s.Book = api.Book{Seq: 9, Next: 4, Cards: []api.Card{c(1), {ID: 2, Ver: 1}, c(3)}, Groups: []api.Group{{No: 2, Members: []int{1}}}}
	s.Subs = []api.Sub{{Dev: 1, Epoch: 2, Filter: slices.Clone(label1), Mask: 1, Floor: 5, Members: []int{1, 3}, Log: []api.Turn{{Seq: 6, ID: 2, Old: 1}, {Seq: 7, ID: 3, New: 1, Card: card.Project(c(3), 1)}}}, {Dev: 4, Epoch: 1, Filter: []api.Node{{Op: api.Member, N: 2}}, Mask: 256, Floor: 9, Members: []int{1}}}
	s.Rows[1] = api.Row{Last: 3, Epoch: 2, Ans: api.Reply{Kind: api.DoSub, Dev: 1, Req: 3, Epoch: 2, Filter: slices.Clone(label1), Mask: 1, Seq: 5}}
	s.Rows[4].Epoch = 1
	s.Rows[0].Epoch = 300
	return s
}

var (
	bookPart = []byte{9, 4, 3, 1, 1, 2, 1, 1, 1, 2, 1, 0, 0, 3, 1, 2, 1, 1, 3, 0, 1, 2, 1, 1}
	subPart  = []byte{2, 1, 2, 1, 3, 1, 1, 5, 2, 6, 2, 1, 0, 7, 3, 0, 1, 3, 1, 0, 1, 1, 3, 4, 1, 1, 4, 2, 128, 2, 9, 0}
	rowPart  = []byte{172, 2, 0, 2, 1, 3, 1, 3, 0, 5, 2, 1, 3, 1, 1, 0, 0, 0, 0, 1, 0, 0, 0}
	wire     = slices.Concat(bookPart, subPart, rowPart)
)

// P34.1
func TestEncode(t *testing.T) {
	if got := statewire.Encode(some()); !bytes.Equal(got, wire) {
		t.Errorf("Encode = %v", got)
	}
	if got := statewire.Encode(state.New()); !bytes.Equal(got, []byte{0, 1, 0, 0, 0, 0, 0, 0, 0, 0, 0, 0, 0, 0, 0, 0, 0, 0}) {
		t.Errorf("Encode of a new state = %v", got)
	}
	for i, change := range []func(s *api.State){func(s *api.State) { s.Book.Next = 1 }, func(s *api.State) { s.Subs[0].Members = nil }, func(s *api.State) { s.Rows = s.Rows[:5] }, func(s *api.State) { s.Rows[4].Epoch = 9 }, func(s *api.State) { *s = api.State{} }} {
		s := some()
		if change(&s); len(statewire.Encode(s)) != 0 {
			t.Errorf("Encode of the Wrong state %d has bytes", i)
		}
	}
}

// P34.1
func TestDecode(t *testing.T) {
	if got, err := statewire.Decode(wire); err != api.OK || !state.Same(got, some()) {
		t.Errorf("Decode = %v, %d", got, err)
	}
	if got, err := statewire.Decode(statewire.Encode(state.New())); err != api.OK || !state.Same(got, state.New()) {
		t.Errorf("Decode of a new state = %v, %d", got, err)
	}
	for n := range wire {
		if got, err := statewire.Decode(wire[:n]); err != api.ErrShort || !state.Same(got, api.State{}) {
			t.Errorf("Decode of %d bytes = %v, %d", n, got, err)
		}
	}
	num := func(b []byte, l ...int) []byte {
		b = bytes.Clone(b)
		for _, n := range l {
			b = octet.Num(b, n)
		}
		return b
	}
	changed := func(at int, to byte) []byte {
		b := bytes.Clone(wire)
		b[at] = to
		return b
	}
	subs, rows := len(bookPart), len(bookPart)+len(subPart)
	long := []byte{129, 128, 128, 128, 128, 32}
	for i, x := range []struct {
		b    []byte
		want api.Errno
	}{
		{append(bytes.Clone(wire), 0), api.ErrForm}, {changed(1, 3), api.ErrForm}, {changed(2, 49), api.ErrLong}, {changed(subs, 5), api.ErrLong}, {changed(subs+1, 6), api.ErrLong}, {changed(subs+1, 4), api.ErrForm}, {changed(subs+2, 0), api.ErrForm}, {changed(subs+2, 3), api.ErrForm}, {changed(subs+3, 0), api.ErrForm}, {changed(subs+4, 0), api.ErrForm}, {changed(subs+4, 13), api.ErrLong}, {changed(subs+5, 16), api.ErrLong},
		{changed(subs+6, 0), api.ErrForm}, {changed(subs+7, 10), api.ErrForm}, {changed(subs+8, 41), api.ErrLong}, {changed(subs+9, 5), api.ErrForm}, {changed(subs+10, 0), api.ErrForm}, {changed(subs+11, 0), api.ErrForm}, {changed(subs+17, 0), api.ErrForm}, {changed(subs+18, 2), api.ErrForm}, {changed(subs+16, 2), api.ErrForm},
		{num(wire[:subs], 1, 0, 1, 1, 1, 512), api.ErrLong}, {append(num(wire[:subs], 1, 0), long...), api.ErrLong}, {append(num(wire[:subs], 1, 0, 1, 1, 1, 1), long...), api.ErrLong}, {append(num(wire[:subs], 1, 0, 1, 1, 1, 1, 0, 1), long...), api.ErrLong}, {num(wire[:subs], 1, 0, 1, 1, 1, 1, 0, 1, 1, api.MaxID), api.ErrLong}, {append(num(wire[:subs], 1, 0, 1, 1, 1, 1, 0, 1, 1, 1), long...), api.ErrLong}, {append(num(wire[:subs], 1, 0, 1, 1, 1, 1, 0, 1, 1, 1, 1), long...), api.ErrLong},
		{append(bytes.Clone(wire[:rows]), long...), api.ErrLong}, {num(wire[:rows], 0, 2), api.ErrForm}, {num(wire[:rows], 0, 1, 1), api.ErrForm}, {num(wire[:rows], 0, 1, 5), api.ErrLong}, {changed(rows+3, 3), api.ErrForm}, {changed(rows+6, 2), api.ErrForm}, {num(wire[:rows], 0, 1, 4, 1, 1, 1, 2, 0, 0, 0, 0, 0, 1, 0, 0, 0), api.ErrForm},
	} {
		if got, err := statewire.Decode(x.b); err != x.want || !state.Same(got, api.State{}) || got.Rows != nil {
			t.Errorf("Decode %d of %v = %d, want %d", i, x.b, err, x.want)
		}
	}
}

// greatest is a state whose numbers are as great as they may be.
func greatest() api.State {
	s := state.New()
	id := api.MaxID - 1
	s.Book = api.Book{Seq: api.MaxNum, Next: api.MaxID, Cards: []api.Card{{ID: id, Ver: api.MaxNum}}}
	for i, dev := range []int{0, 1, 2, 5} {
		x := api.Sub{Dev: dev, Epoch: api.MaxNum, Filter: []api.Node{{Op: api.All}}, Mask: api.AllMask, Floor: api.MaxNum, Members: []int{id}}
		if i == 3 {
			x.Floor -= api.MaxLog
			for n := x.Floor + 1; n <= api.MaxNum; n++ {
				x.Log = append(x.Log, api.Turn{Seq: n, ID: id, Old: n - 1, New: n, Card: api.Card{ID: id, Ver: n}})
			}
		}
		if i == 2 {
			x.Floor--
			x.Log = []api.Turn{{Seq: api.MaxNum, ID: id - 1, Old: api.MaxNum}}
		}
		s.Subs = append(s.Subs, x)
		s.Rows[dev] = api.Row{Last: api.MaxNum, Epoch: api.MaxNum, Ans: api.Reply{Kind: api.DoLeave, Dev: dev, Req: api.MaxNum, Seq: api.MaxNum}}
	}
	return s
}

// P34.2
func TestGreatest(t *testing.T) {
	s := greatest()
	b := statewire.Encode(s)
	if got, err := statewire.Decode(b); len(b) == 0 || err != api.OK || !state.Same(got, s) {
		t.Errorf("the greatest state is decoded as %v, %d", got, err)
	}
	// The first subscription has the Dev 0, the Epoch, one node, the mask, the floor, and no turns.
	num := func(l ...int) (out []byte) {
		for _, n := range l {
			out = octet.Num(out, n)
		}
		return out
	}
	sub := num(0, api.MaxNum, 1, 1, api.AllMask, api.MaxNum, 0)
	at := bytes.Index(b, sub)
	five := slices.Concat(b[:at-1], num(5), sub, b[at:])
	if _, err := statewire.Decode(five); at < 1 || err != api.ErrLong {
		t.Errorf("five subscriptions are %d", err)
	}
}

// P34.2
func TestAnyStates(t *testing.T) {
	s := sample.New(34)
	x := core.New()
	read := 0
	for i := range 1500 {
		d := x.Data()
		c := s.Cmd(max(d.Book.Next-1, 1), 9+i)
		if c.Req > 0 {
			c.Req = d.Rows[c.Dev].Last + 1
		}
		x.Do(c)
		d = x.Data()
		b := statewire.Encode(d)
		if got, err := statewire.Decode(b); err != api.OK || !state.Same(got, d) {
			t.Fatalf("a state is decoded as %v, %d", got, err)
		}
		for range 1 + s.Below(2) {
			b[s.Below(len(b))] = byte(s.Below(20))
		}
		if got, err := statewire.Decode(b); err == api.OK {
			read++
			if state.Wrong(got) != 0 || !bytes.Equal(statewire.Encode(got), b) {
				t.Fatalf("%v is decoded as %v", b, got)
			}
		}
	}
	if read < 50 {
		t.Errorf("too few were read: %d", read)
	}
}
