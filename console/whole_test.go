package console_test

import (
	"slices"
	"testing"

	"offprint/api"
	"offprint/audit"
	"offprint/book"
	"offprint/bound"
	"offprint/card"
	"offprint/core"
	"offprint/eval"
	"offprint/member"
	"offprint/msg"
	"offprint/norm"
	"offprint/parse"
	"offprint/pred"
	"offprint/sample"
	"offprint/script"
	"offprint/state"
	"offprint/world"
)

func made(t *testing.T, l ...script.Op) *world.World {
	t.Helper()
	w, err := world.New(world.Conf{Devs: 6, Page: 3, Size: 300})
	if err != api.OK {
		t.Fatalf("New = %d", err)
	}
	w.Run(l)
	return w
}

func calm(t *testing.T, w *world.World, devs ...int) {
	t.Helper()
	for _, dev := range devs {
		if _, quiet := bound.Calm(w, dev, 3, 1, nil); !quiet {
			t.Fatalf("the device %d is not quiet", dev)
		}
	}
}

func ask(dev int, l []api.Node, m uint32) script.Op {
	return script.Op{Kind: script.Want, Dev: dev, Filter: l, Mask: m}
}
func write(dev, id int, p api.Patch) script.Op {
	return script.Op{Kind: script.Write, Dev: dev, ID: id, Patch: p}
}
func num(f, n int) api.Patch {
	p := api.Patch{Mask: 1 << f}
	p.F[f] = api.Value{Kind: api.Num, N: n}
	return p
}

// T1, T3, T4: whatever is done, and wherever the power goes.
func TestExact(t *testing.T) {
	s := sample.New(511)
	for range 25 {
		w := made(t)
		past := map[int]*book.Book{}
		last := [6]api.Token{}
		for _, o := range some(s, 250) {
			if w.Down() {
				w.Do(script.Op{Kind: script.Fall, Keep: []int{s.Below(3), s.Below(3)}})
			}
			w.Do(o)
			b, _ := book.Load(w.State().Book)
			past[b.Seq()] = b
			for dev := range 6 {
				d := w.Device(dev)
				x := d.Token()
				if x.Epoch == last[dev].Epoch && x.Seq < last[dev].Seq {
					t.Fatalf("the step of the device %d falls in an epoch", dev)
				}
				last[dev] = x
				if l, m := d.Filter(); past[x.Seq] != nil && !card.Same(d.Cards(), member.Ideal(past[x.Seq], eval.New(l), m, x.Cursor)) && x != (api.Token{}) {
					t.Fatalf("the device %d has %v at %v", dev, d.Cards(), x)
				}
			}
		}
		w.Do(script.Op{Kind: script.Fall})
		for dev := range 6 {
			if _, quiet := bound.Calm(w, dev, 3, 3, []int{1, 2, 1, 2, 0, 1}); !quiet {
				t.Fatalf("the device %d is not quiet", dev)
			}
			if w.Device(dev).Token() != (api.Token{}) && !card.Same(w.Device(dev).Cards(), state.Cards(w.State(), dev)) {
				t.Fatalf("the device %d lacks something", dev)
			}
		}
	}
}

// T5: what is told between two tokens is what came, what went, and what is another one.
func TestDeltas(t *testing.T) {
	s := sample.New(514)
	told := map[int]int{}
	for range 150 {
		x := core.New()
		for range 20 {
			x.Do(s.Cmd(max(x.Data().Book.Next-1, 1), 1))
		}
		l, m := s.Fit(), s.Mask()
		x.Do(api.Cmd{Kind: api.DoSub, Dev: 5, Req: 1 << 20, Filter: l, Mask: m})
		sub, _ := book.Load(x.Data().Book)
		from := api.Token{Dev: 5, Epoch: x.Data().Rows[5].Epoch, Seq: sub.Seq(), Cursor: api.MaxID}
		for range s.Below(30) {
			x.Do(api.Cmd{Kind: api.DoEdit, Edit: s.Edit(max(x.Data().Book.Next-1, 1))})
		}
		p := x.Pull(from, api.MaxPage)
		if p.Code != api.OK || p.Reset || p.To.Seq != x.Seq() {
			continue
		}
		var items [4][]int
		for _, i := range p.Items {
			items[i.Kind] = append(items[i.Kind], i.Card.ID)
			told[i.Kind]++
		}
		b, _ := book.Load(x.Data().Book)
		in, out, up := member.Lacks(b, eval.New(l), m, api.MaxID, member.Ideal(sub, eval.New(l), m, api.MaxID))
		if !slices.Equal(items[api.In], in) || !slices.Equal(items[api.Out], out) || !slices.Equal(items[api.Up], up) {
			t.Fatalf("told was %v; what came, went and is another one is %v, %v, %v", p.Items, in, out, up)
		}
	}
	if told[api.In] < 20 || told[api.Out] < 5 || told[api.Up] < 5 {
		t.Errorf("too little was told: %v", told)
	}
}

// T2: what is written back, and what may not be.
func TestWrites(t *testing.T) {
	w := made(t, create(), create(), ask(0, []api.Node{{Op: api.Has, N: 0}}, 3), ask(1, all, api.AllMask))
	calm(t, w, 0, 1)
	if w.Do(write(0, 1, num(2, 5))) != api.ErrMask || w.Do(write(0, 1, num(1, 5))) != api.OK || w.Do(write(0, 1, num(0, 6))) != api.OK {
		t.Fatalf("Write")
	}
	w.Run([]script.Op{act(script.Say, 0, 0), act(script.Twice, 0, 0), act(script.Twice, 0, 0), act(script.Give, 0, 0), act(script.Give, 0, 0), act(script.Give, 0, 0)})
	if got := w.State().Book.Cards[0]; got.Ver != 2 {
		t.Errorf("a request that comes thrice: %v", got)
	}
	calm(t, w, 0, 1)
	want := api.Card{ID: 1, Ver: 3, F: [8]api.Value{{Kind: api.Num, N: 6}, {Kind: api.Num, N: 5}}}
	if got := w.State().Book.Cards; got[0] != want || got[1] != card.Fresh(2, seven) || w.Device(1).Cards()[0] != want {
		t.Errorf("the cards are %v", got)
	}
}

// T7: what was shown offline is what there is in the end; of two that wrote one is told.
func TestOffline(t *testing.T) {
	w := made(t, create(), create(), create(), ask(0, all, 3), ask(1, all, 3))
	calm(t, w, 0, 1)
	s := sample.New(512)
	for range 8 {
		w.Do(write(0, 1+s.Below(2), num(s.Below(2), s.Below(9))))
	}
	shown := w.Device(0).Shown()
	calm(t, w, 0, 1)
	for i, c := range w.Device(1).Cards() {
		if shown[i].F != c.F {
			t.Errorf("offline was shown %v, and there is %v", shown[i], c)
		}
	}
	w.Run([]script.Op{write(0, 3, num(0, 1)), write(1, 3, num(0, 2)), write(1, 3, num(1, 3))})
	calm(t, w, 0, 1)
	got := w.Device(1).Reports()
	if len(w.Device(0).Reports()) != 0 || len(got) != 2 || got[0].Code != api.ErrStale || got[0].Req == 0 || got[1].Code != api.ErrStale || got[1].Req != 0 || w.State().Book.Cards[2].Ver != 2 {
		t.Errorf("two that wrote are told %v", got)
	}
}

// T6: what a device has is what its filter's text says; a filter of the same form changes nothing.
func TestFilters(t *testing.T) {
	s := sample.New(513)
	w := made(t)
	for range 200 {
		w.Do(change(s.Edit(max(w.State().Book.Next-1, 1))))
	}
	for _, text := range []string{"label 1 and not has 2", "not (label 0 or label 1)", `field 0 = 1 or field 1 ~ "a"`, "member 2 or has 0 and label 2", "all", "never"} {
		l, _, _ := parse.Filter(text)
		w.Do(ask(0, l, api.AllMask))
		calm(t, w, 0)
		var want []api.Card
		b, _ := book.Load(w.State().Book)
		for _, c := range b.Cards() {
			if eval.New(l).Match(c, b.Groups(c.ID)) {
				want = append(want, c)
			}
		}
		if !card.Same(w.Device(0).Cards(), want) {
			t.Errorf("%q shows %v", text, w.Device(0).Cards())
		}
		x := w.Device(0).Token()
		twice := pred.Join(api.Not, pred.Join(api.Not, l))
		if !norm.Same(l, twice) {
			t.Fatalf("%q twice turned is another one", text)
		}
		w.Do(ask(0, twice, api.AllMask))
		calm(t, w, 0)
		if w.Device(0).Token() != x || !card.Same(w.Device(0).Cards(), want) {
			t.Errorf("a filter of the form of %q changes %v to %v", text, x, w.Device(0).Token())
		}
	}
}

// T3, T8: behind a Trim, and where the table is full.
func TestLimits(t *testing.T) {
	w := made(t, create(), ask(0, all, 1), ask(1, all, 1), ask(2, all, 1), ask(3, all, 1), ask(4, all, 1))
	calm(t, w, 0, 1, 2, 3, 4)
	if got := w.Device(4).Reports(); len(got) != 1 || got[0].Code != api.ErrFull || w.Device(4).Token() != (api.Token{}) {
		t.Errorf("the fifth device is told %v", got)
	}
	w.Run([]script.Op{create(), act(script.Trim, 0, 0)})
	for dev, f := range audit.All(w)[:4] {
		if f.Kind != audit.Right || f.Behind != 2 {
			t.Errorf("behind a Trim the device %d is %v", dev, f)
		}
	}
	w.Run(talk(0))
	if x := w.Device(0).Token(); x != (api.Token{Epoch: 1, Seq: 2}) || len(w.Device(0).Cards()) != 0 {
		t.Errorf("a token that was passed is answered by %v", x)
	}
	calm(t, w, 0, 1, 2, 3)
	for range api.MaxLog + 1 {
		w.Do(change(api.Edit{Kind: api.Write, ID: 1, Patch: seven}))
	}
	w.Run(talk(1))
	if x := w.Device(1).Token(); x.Cursor != 0 || len(w.Device(1).Cards()) != 0 {
		t.Errorf("more turns than are kept are answered by %v", x)
	}
	text, _ := msg.Encode(msg.Msg{Kind: msg.Fault, Code: api.ErrForm})
	if text != "\x05\x03" || !slices.Equal(w.Run([]script.Op{{Kind: script.Raw, Text: "\x00"}}), []api.Errno{api.OK}) {
		t.Errorf("the byte 0 as a message")
	}
}
