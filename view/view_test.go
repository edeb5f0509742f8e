package view_test

import (
	"math"
	"slices"
	"testing"

	"offprint/api"
	"offprint/book"
	"offprint/card"
	"offprint/eval"
	"offprint/member"
	"offprint/sample"
	"offprint/trans"
	"offprint/view"
)

var (
	label1 = []api.Node{{Op: api.Label, N: 1}}
	all    = []api.Node{{Op: api.All}}
	with   = api.Patch{Mask: api.LabelBit | 3, Labels: 2, F: [8]api.Value{{Kind: api.Num, N: 7}, {Kind: api.Num, N: 8}}}
	no     = api.Patch{Mask: api.LabelBit}
)

func create(p api.Patch) api.Edit        { return api.Edit{Kind: api.Create, Patch: p} }
func write(id int, p api.Patch) api.Edit { return api.Edit{Kind: api.Write, ID: id, Patch: p} }

// do does edits, and lets the view step on.
func do(t *testing.T, b *book.Book, v *view.View, l ...api.Edit) {
	for _, e := range l {
		steps, err := b.Do(e)
		if err != api.OK {
			t.Fatalf("%v = %d", e, err)
		}
		v.Step(b, steps)
	}
}

// P25.1
func TestSteps(t *testing.T) {
	b := book.New()
	do(t, b, nil, create(with), create(no), api.Edit{Kind: api.Open, Group: 2})
	v := view.New(b, label1, 1)
	if v.Now() != 3 || v.Floor() != 3 || len(v.Log()) != 0 || !slices.Equal(v.Members(), []int{1}) || v.Mask() != 1 || !slices.Equal(v.Asks().Nodes(), label1) {
		t.Fatalf("a new view")
	}
	join := api.Edit{Kind: api.Join, Group: 2, ID: 1}
	do(t, b, v, create(with), write(1, no), api.Edit{Kind: api.Open, Group: 5}, write(3, with), write(2, no), join, write(1, with), api.Edit{Kind: api.Delete, ID: 3}, api.Edit{Kind: api.Delete, ID: 2})
	shown := func(id, ver int) api.Card { return api.Card{ID: id, Ver: ver, F: [8]api.Value{{Kind: api.Num, N: 7}}} }
	want := []api.Turn{
		{Seq: 4, ID: 3, New: 1, Card: shown(3, 1)}, {Seq: 5, ID: 1, Old: 1}, {Seq: 7, ID: 3, Old: 1, New: 2, Card: shown(3, 2)}, {Seq: 10, ID: 1, New: 3, Card: shown(1, 3)}, {Seq: 11, ID: 3, Old: 2},
	}
	if got := v.Log(); !slices.Equal(got, want) || v.Now() != 12 || v.Floor() != 3 || !slices.Equal(v.Members(), []int{1}) {
		t.Errorf("Log = %v, Now %d", got, v.Now())
	}
	v.Log()[0].Seq = 99
	v.Members()[0] = 99
	if v.Log()[0].Seq != 4 || v.Members()[0] != 1 {
		t.Errorf("a view shares its lists")
	}
}

// P25.1: groups that are closed turn each of their cards at a step of its own.
func TestGroups(t *testing.T) {
	b := book.New()
	do(t, b, nil, create(with), create(no), api.Edit{Kind: api.Open, Group: 2})
	v := view.New(b, []api.Node{{Op: api.Member, N: 2}}, 0)
	do(t, b, v, api.Edit{Kind: api.Join, Group: 2, ID: 2}, api.Edit{Kind: api.Join, Group: 2, ID: 1}, api.Edit{Kind: api.Close, Group: 2})
	want := []api.Turn{{Seq: 4, ID: 2, New: 1, Card: api.Card{ID: 2, Ver: 1}}, {Seq: 5, ID: 1, New: 1, Card: api.Card{ID: 1, Ver: 1}}, {Seq: 6, ID: 1, Old: 1}, {Seq: 7, ID: 2, Old: 1}}
	if got := v.Log(); !slices.Equal(got, want) || v.Now() != 8 {
		t.Errorf("Log = %v", got)
	}
}

// P25.1
func TestNewOfWhatMayNotBe(t *testing.T) {
	b := book.New()
	for i, v := range []*view.View{view.New(nil, all, 1), view.New(b, nil, 1), view.New(b, []api.Node{{Op: api.Label, N: 16}}, 1), view.New(b, all, api.AllMask+1)} {
		if v != nil {
			t.Errorf("New %d is a view", i)
		}
	}
	if view.New(b, all, 0) == nil || view.New(b, all, api.AllMask) == nil {
		t.Errorf("New is nil")
	}
	for _, v := range []*view.View{nil} {
		v.Step(b, []api.Change{{Seq: 1, ID: 1}})
		v.Trim(5)
		items, to, ok := v.Delta(0, 1, 1)
		if items != nil || to != 0 || ok || v.Members() != nil || v.Log() != nil || v.Floor() != 0 || v.Now() != 0 || v.Asks() != nil || v.Mask() != 0 {
			t.Errorf("a nil view")
		}
	}
}

// P25.1
func TestTrimAndMost(t *testing.T) {
	b := book.New()
	do(t, b, nil, create(with))
	v := view.New(b, all, 1)
	for i := range api.MaxLog {
		do(t, b, v, write(1, with))
		if v.Floor() != 1 || len(v.Log()) != i+1 {
			t.Fatalf("the floor is %d of %d turns", v.Floor(), len(v.Log()))
		}
	}
	do(t, b, v, write(1, with))
	if v.Floor() != 2 || len(v.Log()) != api.MaxLog || v.Log()[0].Seq != 3 {
		t.Errorf("one too many: the floor is %d, the first turn %v", v.Floor(), v.Log()[0])
	}
	for _, x := range [][3]int{{1, 2, 3}, {math.MinInt, 2, 3}, {2, 2, 3}, {7, 7, 8}, {5, 7, 8}} {
		if v.Trim(x[0]); v.Floor() != x[1] || v.Log()[0].Seq != x[2] {
			t.Errorf("Trim(%d): the floor is %d, the first turn %v", x[0], v.Floor(), v.Log()[0])
		}
	}
	do(t, b, v, api.Edit{Kind: api.Open, Group: 1})
	if v.Trim(v.Now() - 1); v.Floor() != v.Now()-1 || len(v.Log()) != 0 {
		t.Errorf("Trim of all turns: the floor is %d", v.Floor())
	}
	if v.Trim(math.MaxInt); v.Floor() != v.Now() || v.Now() != b.Seq() {
		t.Errorf("Trim above the last step: the floor is %d", v.Floor())
	}
}

// P25.2
func TestDelta(t *testing.T) {
	b := book.New()
	v := view.New(b, label1, 1)
	do(t, b, v, create(with), create(no), create(with), write(1, no), api.Edit{Kind: api.Open})
	v.Trim(1)
	for _, x := range []struct {
		from, cursor, page int
		kinds              []int
		to                 int
		ok                 bool
	}{
		{0, api.MaxID, 9, nil, 0, false}, {-1, api.MaxID, 9, nil, 0, false}, {6, api.MaxID, 9, nil, 0, false}, {1, api.MaxID, 9, []int{api.Out, api.In}, 5, true}, {1, api.MaxID, 1, []int{api.In}, 3, true}, {3, api.MaxID, 1, []int{api.Out}, 5, true}, {1, 2, 9, []int{api.Out}, 5, true}, {1, 0, 9, nil, 5, true}, {5, api.MaxID, 9, nil, 5, true}, {1, api.MaxID, 0, nil, 2, true},
	} {
		items, to, ok := v.Delta(x.from, x.cursor, x.page)
		var kinds []int
		for _, i := range items {
			kinds = append(kinds, i.Kind)
		}
		if !slices.Equal(kinds, x.kinds) || to != x.to || ok != x.ok {
			t.Errorf("Delta(%d, %d, %d) = %v, %d, %v", x.from, x.cursor, x.page, items, to, ok)
		}
	}
}

// P25.3
func TestLoad(t *testing.T) {
	b := book.New()
	do(t, b, nil, create(with), create(with))
	v := view.New(b, label1, 1)
	do(t, b, v, write(1, with), create(with), write(3, no), write(1, no), write(2, with))
	log := v.Log()
	got, ok := view.Load(b, label1, 1, 2, log)
	if !ok || got.Floor() != 2 || got.Now() != 7 || !slices.Equal(got.Log(), log) || !slices.Equal(got.Members(), []int{2}) || got.Mask() != 1 {
		t.Fatalf("Load")
	}
	log[0].Old = 99
	if got.Log()[0].Old == 99 {
		t.Errorf("Load keeps what it was given")
	}
	log = v.Log()
	if _, ok := view.Load(b, label1, 1, 7, nil); !ok {
		t.Errorf("Load of no turns")
	}
	if _, ok := view.Load(b, label1, 1, 0, nil); !ok {
		t.Errorf("Load of the floor 0")
	}
	if _, ok := view.Load(b, label1, 1, 3, log[1:]); !ok {
		t.Errorf("Load of the later turns")
	}
	change := func(at int, f func(t *api.Turn)) []api.Turn {
		l := v.Log()
		f(&l[at])
		return l
	}
	for i, x := range []struct {
		b     *book.Book
		l     []api.Node
		m     uint32
		floor int
		log   []api.Turn
	}{
		{nil, label1, 1, 2, nil}, {b, nil, 1, 2, log}, {b, label1, 512, 2, log}, {b, label1, 1, -1, log}, {b, label1, 1, 8, nil}, {b, label1, 1, 3, log}, {b, label1, 1, 7, log},
		{b, label1, 0, 2, log}, {b, label1, 1, 2, log[:1]}, {b, label1, 1, 2, log[:3]}, {b, label1, 1, 2, []api.Turn{log[1]}},
		{b, label1, 1, 2, change(0, func(t *api.Turn) { t.Old = t.New })}, {b, label1, 1, 2, change(4, func(t *api.Turn) { t.Seq = 8 })}, {b, label1, 1, 2, change(4, func(t *api.Turn) { t.Card.F[1] = api.Value{Kind: api.Num} })}, {b, label1, 1, 2, change(4, func(t *api.Turn) { t.New, t.Card.Ver = 9, 9 })}, {b, label1, 1, 2, change(2, func(t *api.Turn) { t.Seq = 4 })}, {b, label1, 1, 2, change(0, func(t *api.Turn) { t.Card.Labels = 2 })},
	} {
		if v, ok := view.Load(x.b, x.l, x.m, x.floor, x.log); ok || v != nil {
			t.Errorf("Load %d is true", i)
		}
	}
	var many []api.Turn
	b = book.New()
	do(t, b, nil, create(with))
	for i := range api.MaxLog + 1 {
		do(t, b, nil, write(1, with))
		c, _ := b.Get(1)
		many = append(many, api.Turn{Seq: i + 2, ID: 1, Old: i + 1, New: i + 2, Card: card.Project(c, 1)})
	}
	if _, ok := view.Load(b, all, 1, 1, many); ok {
		t.Errorf("Load of too many turns")
	}
	if _, ok := view.Load(b, all, 1, 2, many[1:]); !ok {
		t.Errorf("Load of as many turns as there may be")
	}
}

// P25.4, P25.5
func TestAnyEdits(t *testing.T) {
	s := sample.New(25)
	for range 60 {
		b, l, m := book.New(), s.Fit(), s.Mask()
		f := eval.New(l)
		for range s.Below(20) {
			b.Do(s.Edit(b.Data().Next))
		}
		v := view.New(b, l, m)
		past := map[int]*book.Book{}
		keep := func(seq int) { past[seq], _ = book.Load(b.Data()) }
		keep(b.Seq())
		for range 120 {
			steps, err := b.Do(s.Edit(b.Data().Next))
			if err != api.OK {
				continue
			}
			v.Step(b, steps)
			keep(b.Seq())
			if s.Below(30) == 0 {
				v.Trim(b.Seq() - s.Below(20))
			}
			if v.Now() != b.Seq() || !slices.Equal(v.Members(), member.IDs(b, f)) || !trans.Check(v.Log()) || len(v.Log()) > api.MaxLog {
				t.Fatalf("what is kept is not what is told anew")
			}
			if again, ok := view.Load(b, l, m, v.Floor(), v.Log()); !ok || !slices.Equal(again.Members(), v.Members()) {
				t.Fatalf("a view can't be loaded")
			}
			from, cursor, page := v.Floor()+s.Below(v.Now()-v.Floor()+1), s.Below(b.Data().Next+1), s.Below(5)
			items, to, ok := v.Delta(from, cursor, page)
			if !ok || len(items) > page || past[from] == nil || past[to] == nil {
				continue
			}
			got, fits := trans.Apply(member.Ideal(past[from], f, m, cursor), items)
			if want := member.Ideal(past[to], f, m, cursor); !fits || !card.Same(got, want) {
				t.Fatalf("Delta from %d to %d tells %v: %v, want %v", from, to, items, got, want)
			}
		}
	}
}
