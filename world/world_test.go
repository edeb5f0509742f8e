package world_test

import (
	"slices"
	"testing"

	"offprint/api"
	"offprint/book"
	"offprint/card"
	"offprint/eval"
	"offprint/member"
	"offprint/msg"
	"offprint/sample"
	"offprint/script"
	"offprint/state"
	"offprint/world"
)

var (
	all   = []api.Node{{Op: api.All}}
	seven = api.Patch{Mask: 1, F: [8]api.Value{{Kind: api.Num, N: 7}}}
	eight = api.Patch{Mask: 1, F: [8]api.Value{{Kind: api.Num, N: 8}}}
)

func create() script.Op {
	return script.Op{Kind: script.Change, Edit: api.Edit{Kind: api.Create, Patch: seven}}
}
func n(kind, n int) script.Op     { return script.Op{Kind: kind, N: n} }
func dev(kind, dev int) script.Op { return script.Op{Kind: kind, Dev: dev} }
func want(dev int) script.Op {
	return script.Op{Kind: script.Want, Dev: dev, Filter: all, Mask: api.AllMask}
}
func write(dev, id int, p api.Patch) script.Op {
	return script.Op{Kind: script.Write, Dev: dev, ID: id, Patch: p}
}
func raw(text string) script.Op { return script.Op{Kind: script.Raw, Text: text} }

func opened(t *testing.T, c world.Conf) *world.World {
	t.Helper()
	w, err := world.New(c)
	if err != api.OK {
		t.Fatalf("New = %d", err)
	}
	return w
}

// run does acts, each of which must tell OK.
func run(t *testing.T, w *world.World, l ...script.Op) {
	t.Helper()
	for i, err := range w.Run(l) {
		if err != api.OK {
			t.Fatalf("the act %d: %v = %d", i, l[i], err)
		}
	}
}

// talk is what a device says, and the answer, given.
func talk(t *testing.T, w *world.World, d int) {
	t.Helper()
	run(t, w, dev(script.Say, d), n(script.Give, 0), n(script.Give, 0))
}

// P48.1
func TestNew(t *testing.T) {
	for _, x := range []struct {
		c    world.Conf
		want api.Errno
	}{
		{world.Conf{0, 1, 9}, api.ErrArg}, {world.Conf{7, 1, 9}, api.ErrArg}, {world.Conf{1, 0, 9}, api.ErrArg}, {world.Conf{1, 17, 9}, api.ErrArg}, {world.Conf{1, 1, 0}, api.ErrArg}, {world.Conf{1, 1, api.MaxDisk + 1}, api.ErrArg}, {world.Conf{-1, 1, 9}, api.ErrArg}, {world.Conf{1, 1, 2}, api.ErrArg}, {world.Conf{1, 1, 3}, api.OK}, {world.Conf{6, 16, api.MaxDisk}, api.OK},
	} {
		w, err := world.New(x.c)
		if err != x.want || (w != nil) != (err == api.OK) {
			t.Errorf("New(%v) = %d", x.c, err)
		}
		if err == api.OK && (w.Down() || w.Disk().Size() != x.c.Size || w.Net().Len() != 0 || w.Server() == nil || !state.Same(w.State(), state.New()) || w.Device(x.c.Devs-1) == nil || w.Device(x.c.Devs) != nil || w.Device(-1) != nil || w.Device(0).Busy()) {
			t.Errorf("the world of %v", x.c)
		}
	}
}

// P48.2
func TestTheExample(t *testing.T) {
	w := opened(t, world.Conf{1, 1, 60})
	run(t, w, create(), want(0), dev(script.Say, 0))
	if p, _ := w.Net().Look(0); p.From != 0 || p.To != -1 || w.Net().Len() != 1 {
		t.Errorf("the packet %v", p)
	}
	run(t, w, n(script.Give, 0))
	if p, _ := w.Net().Look(0); p.From != -1 || p.To != 0 || w.Net().Len() != 1 {
		t.Errorf("the packet %v", p)
	}
	run(t, w, n(script.Give, 0))
	talk(t, w, 0)
	if d := w.Device(0); !card.Same(d.Cards(), []api.Card{card.Fresh(1, seven)}) || d.Busy() || w.Net().Len() != 0 {
		t.Errorf("the device has %v", d.Cards())
	}
	run(t, w, write(0, 1, eight))
	talk(t, w, 0)
	if w.State().Book.Cards[0].Ver != 2 {
		t.Errorf("the write was not done")
	}
}

// P48.2
func TestCodes(t *testing.T) {
	w := opened(t, world.Conf{2, 3, 60})
	raws, _ := msg.Encode(msg.Msg{Kind: msg.Ask, Cmd: api.Cmd{Kind: api.DoSub, Dev: 5, Req: 1, Filter: all, Mask: 1}})
	for i, x := range []struct {
		o    script.Op
		want api.Errno
	}{
		{script.Op{}, api.ErrArg}, {n(script.Give, -1), api.ErrArg}, {dev(script.Say, 2), api.ErrArg}, {want(5), api.ErrArg}, {dev(script.Leave, -1), api.ErrArg}, {dev(script.Give, 1), api.ErrArg},
		{script.Op{Kind: script.Change, Edit: api.Edit{Kind: api.Delete, ID: 3}}, api.ErrNone}, {create(), api.OK}, {n(script.Trim, 4), api.OK}, {write(0, 1, seven), api.ErrState}, {dev(script.Say, 0), api.ErrNone}, {n(script.Give, 0), api.ErrNone}, {n(script.Lose, 0), api.ErrNone}, {n(script.Twice, 0), api.ErrNone},
		{want(0), api.OK}, {dev(script.Leave, 0), api.OK}, {want(0), api.OK}, {dev(script.Say, 0), api.OK}, {n(script.Twice, 0), api.OK}, {n(script.Twice, 2), api.ErrNone}, {n(script.Give, 1), api.OK}, {n(script.Give, 0), api.OK}, {n(script.Give, 2), api.ErrNone}, {n(script.Give, 1), api.OK}, {n(script.Give, 0), api.ErrOld}, {n(script.Give, 0), api.ErrNone},
		{write(0, 1, seven), api.ErrNone}, {dev(script.Say, 0), api.OK}, {n(script.Lose, 0), api.OK}, {n(script.Lose, 0), api.ErrNone}, {raw("\x00"), api.OK}, {raw(raws), api.OK}, {n(script.Fuse, 0), api.OK}, {n(script.Trim, 1), api.ErrPower}, {create(), api.ErrState}, {raw("\x00"), api.ErrState}, {dev(script.Say, 0), api.OK}, {n(script.Give, 0), api.ErrState}, {n(script.Give, 0), api.ErrNone}, {script.Op{Kind: script.Fall, Keep: []int{1}}, api.OK}, {create(), api.OK},
	} {
		if got := w.Do(x.o); got != x.want {
			t.Errorf("the act %d: %v = %d, want %d", i, x.o, got, x.want)
		}
	}
	if s := w.State(); len(s.Subs) != 2 || s.Subs[1].Dev != 5 || w.Net().Len() != 0 {
		t.Errorf("the Raw was not done: %v", s.Subs)
	}
	var none *world.World
	if none.Do(create()) != api.ErrState || none.Do(script.Op{}) != api.ErrState || !slices.Equal(none.Run([]script.Op{create(), create()}), []api.Errno{api.ErrState, api.ErrState}) || !none.Down() || !state.Same(none.State(), api.State{}) || none.Device(0) != nil || none.Net() != nil || none.Disk() != nil || none.Server() != nil {
		t.Errorf("a nil world")
	}
	if got := w.Run(nil); len(got) != 0 {
		t.Errorf("Run of no acts = %v", got)
	}
}

// P48.2
func TestAFullNet(t *testing.T) {
	w := opened(t, world.Conf{1, 1, 60})
	run(t, w, want(0))
	for range api.MaxNet {
		run(t, w, dev(script.Say, 0))
	}
	if w.Do(dev(script.Say, 0)) != api.ErrFull || w.Do(n(script.Twice, 0)) != api.ErrFull || w.Do(n(script.Twice, 40)) != api.ErrNone || w.Do(n(script.Give, 39)) != api.OK || w.Net().Len() != api.MaxNet {
		t.Errorf("a net that is full")
	}
}

// P48.2, P48.3
func TestDown(t *testing.T) {
	w := opened(t, world.Conf{1, 1, 60})
	run(t, w, create(), n(script.Fuse, 1))
	before := w.State()
	if w.Do(create()) != api.ErrPower || !w.Down() || w.Server() == nil || !state.Same(w.State(), before) || w.Disk().Waiting() != 1 {
		t.Errorf("the power goes")
	}
	if w.Do(script.Op{Kind: script.Fall, Keep: []int{2}}) != api.OK || w.Down() || !state.Same(w.State(), before) {
		t.Errorf("a fall that loses the write")
	}
	run(t, w, n(script.Fuse, 1))
	w.Do(create())
	if w.Do(script.Op{Kind: script.Fall, Keep: []int{1}}) != api.OK || len(w.State().Book.Cards) != 2 {
		t.Errorf("a fall that keeps the write")
	}
	for _, at := range []int{0, 1} {
		w.Disk().Write(at, "x"+string(slices.Repeat([]byte{0}, 63)))
	}
	if w.Do(script.Op{Kind: script.Fall, Keep: []int{1, 1}}) != api.ErrBad || !w.Down() || w.Server() != nil || !state.Same(w.State(), api.State{}) || w.Do(create()) != api.ErrState || w.Do(raw("\x00")) != api.ErrState {
		t.Errorf("a fall behind which there is no server")
	}
}

// acts are any acts of a world.
func act(s *sample.Source, w *world.World) script.Op {
	next, d := max(w.State().Book.Next, 2), s.Below(4)
	switch s.Below(20) {
	case 0, 1, 2:
		return script.Op{Kind: script.Change, Edit: s.Edit(next - 1)}
	case 3:
		if s.Below(4) > 0 {
			return dev(script.Say, d)
		}
		return script.Op{Kind: script.Want, Dev: d, Filter: s.Fit(), Mask: s.Mask() | 7}
	case 4:
		switch s.Below(12) {
		case 0:
			return dev(script.Leave, d)
		case 1:
			return n(script.Trim, s.Below(20))
		case 2:
			c := s.Cmd(next, 20)
			text, _ := msg.Encode(msg.Msg{Kind: msg.Ask, Cmd: c})
			return raw(text)
		case 3:
			return raw(string(s.Bytes(s.Below(9))))
		}
		return n(script.Give, 0)
	case 5:
		return n(script.Lose, s.Below(3))
	case 6:
		return n(script.Twice, s.Below(3))
	case 7:
		if w.Down() || s.Below(4) == 0 {
			return script.Op{Kind: script.Fall, Keep: []int{s.Below(3), s.Below(3), s.Below(3), s.Below(3)}}
		}
		return n(script.Fuse, s.Below(30))
	case 8, 9:
		l := w.Device(d).Cards()
		if len(l) > 0 {
			return write(d, l[s.Below(len(l))].ID, s.PatchOf(1<<s.Below(3)))
		}
		return dev(script.Say, d)
	case 10, 11, 12, 13:
		return dev(script.Say, d)
	}
	return n(script.Give, s.Below(4))
}

// between notes the books between the steps of a Close: they are those of its Quits, one by one.
func between(past map[int]*book.Book, before api.Book, e api.Edit) {
	for _, g := range before.Groups {
		if e.Kind != api.Close || g.No != e.Group {
			continue
		}
		b, _ := book.Load(before)
		for _, id := range g.Members {
			b.Do(api.Edit{Kind: api.Quit, Group: g.No, ID: id})
			past[b.Seq()], _ = book.Load(b.Data())
		}
	}
}

// P48.4, P48.5, and T1 and T3 of the whole
func TestAnyWorld(t *testing.T) {
	s := sample.New(48)
	asked, unknown := 0, 0
	for range 60 {
		w := opened(t, world.Conf{4, 1 + s.Below(6), 150})
		past := map[int]*book.Book{}
		last := [4]api.Token{}
		for range 350 {
			o := act(s, w)
			before := w.State()
			w.Do(o)
			now := w.State()
			if !slices.Contains([]int{script.Change, script.Trim, script.Give, script.Fall, script.Raw}, o.Kind) && !state.Same(before, now) {
				t.Fatalf("%v changes the state", o)
			}
			if now.Book.Seq < before.Book.Seq || state.Wrong(now) != 0 {
				t.Fatalf("%v: the Seq %d falls to %d, or the state is Wrong", o, before.Book.Seq, now.Book.Seq)
			}
			b, _ := book.Load(now.Book)
			if old := past[b.Seq()]; old != nil && !card.Same(old.Cards(), b.Cards()) {
				t.Fatalf("the book of the step %d is another one", b.Seq())
			}
			past[b.Seq()] = b
			if o.Kind == script.Change && b.Seq() > before.Book.Seq {
				between(past, before.Book, o.Edit)
			}
			for dev := range 4 {
				d := w.Device(dev)
				x := d.Token()
				if x.Epoch == last[dev].Epoch && x.Seq < last[dev].Seq || x.Seq > b.Seq() {
					t.Fatalf("behind %v the token of the device %d goes from %v to %v, at the step %d", o, dev, last[dev], x, b.Seq())
				}
				last[dev] = x
				l, m := d.Filter()
				if x == (api.Token{}) {
					continue
				}
				if past[x.Seq] == nil {
					unknown++
					continue
				}
				asked++
				if want := member.Ideal(past[x.Seq], eval.New(l), m, x.Cursor); !card.Same(d.Cards(), want) {
					t.Fatalf("behind %v the device %d has %v at %v, want %v", o, dev, d.Cards(), x, want)
				}
			}
		}
	}
	if asked < 5000 || unknown > asked/20 {
		t.Errorf("too little was asked: %d, and of %d the book is unknown", asked, unknown)
	}
}
