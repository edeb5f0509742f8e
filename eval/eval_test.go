package eval_test

import (
	"slices"
	"sync"
	"testing"

	"offprint/api"
	"offprint/eval"
	"offprint/pred"
	"offprint/sample"
	"offprint/value"
)

func n(op, no int) api.Node               { return api.Node{Op: op, N: no} }
func nv(op, no int, v api.Value) api.Node { return api.Node{Op: op, N: no, V: v} }
func num(n int) api.Value                 { return api.Value{Kind: api.Num, N: n} }
func text(s string) api.Value             { return api.Value{Kind: api.Text, S: s} }

// P13.1
func TestMatch(t *testing.T) {
	c := api.Card{ID: 1, Ver: 1, Labels: 1<<2 | 1<<15, F: [8]api.Value{0: num(7), 1: text("Abc"), 7: num(0)}}
	groups := uint32(1<<3 | 1<<15)
	for _, x := range []struct {
		l  []api.Node
		is bool
	}{
		{[]api.Node{n(api.All, 0)}, true}, {[]api.Node{n(api.Never, 0)}, false},
		{[]api.Node{n(api.Label, 2)}, true}, {[]api.Node{n(api.Label, 15)}, true}, {[]api.Node{n(api.Label, 3)}, false}, {[]api.Node{n(api.Label, 0)}, false},
		{[]api.Node{n(api.Member, 3)}, true}, {[]api.Node{n(api.Member, 15)}, true}, {[]api.Node{n(api.Member, 2)}, false},
		{[]api.Node{n(api.Has, 0)}, true}, {[]api.Node{n(api.Has, 7)}, true}, {[]api.Node{n(api.Has, 2)}, false},
		{[]api.Node{nv(api.Equals, 0, num(7))}, true}, {[]api.Node{nv(api.Equals, 0, num(8))}, false}, {[]api.Node{nv(api.Equals, 1, text("Abc"))}, true}, {[]api.Node{nv(api.Equals, 1, text("abc"))}, false}, {[]api.Node{nv(api.Equals, 2, text(""))}, false},
		{[]api.Node{nv(api.Less, 0, num(8))}, true}, {[]api.Node{nv(api.Less, 0, num(7))}, false}, {[]api.Node{nv(api.Less, 0, text("z"))}, false}, {[]api.Node{nv(api.Less, 1, text("B"))}, true}, {[]api.Node{nv(api.Less, 2, num(5))}, false},
		{[]api.Node{nv(api.More, 0, num(6))}, true}, {[]api.Node{nv(api.More, 0, num(7))}, false}, {[]api.Node{nv(api.More, 1, num(6))}, false}, {[]api.Node{nv(api.More, 1, text("A"))}, true},
		{[]api.Node{nv(api.Holds, 1, text("bC"))}, true}, {[]api.Node{nv(api.Holds, 1, text(""))}, true}, {[]api.Node{nv(api.Holds, 1, text("cb"))}, false}, {[]api.Node{nv(api.Holds, 0, text("7"))}, false}, {[]api.Node{nv(api.Holds, 2, text(""))}, false},
		{[]api.Node{n(api.Not, 0), n(api.All, 0)}, false}, {[]api.Node{n(api.Not, 0), n(api.Never, 0)}, true},
		{[]api.Node{n(api.And, 0), n(api.Label, 2), n(api.Has, 2)}, false}, {[]api.Node{n(api.And, 0), n(api.Has, 2), n(api.Label, 2)}, false}, {[]api.Node{n(api.And, 0), n(api.Has, 1), n(api.Label, 2)}, true},
		{[]api.Node{n(api.Or, 0), n(api.Label, 2), n(api.Has, 2)}, true}, {[]api.Node{n(api.Or, 0), n(api.Has, 2), n(api.Label, 2)}, true}, {[]api.Node{n(api.Or, 0), n(api.Has, 2), n(api.Never, 0)}, false},
	} {
		f := eval.New(x.l)
		if f.Match(c, groups) != x.is || f.Match(c, groups) != x.is {
			t.Errorf("Match of %v is %v", x.l, !x.is)
		}
	}
}

// P13.1
func TestWhatIsAsked(t *testing.T) {
	l := []api.Node{n(api.And, 0), n(api.Or, 0), n(api.Member, 3), n(api.Label, 9), n(api.And, 0), n(api.Has, 0), n(api.Or, 0), nv(api.Equals, 2, num(1)), n(api.And, 0), nv(api.Less, 4, num(1)), n(api.Or, 0), nv(api.More, 5, num(1)), n(api.And, 0), nv(api.Holds, 7, text("")), n(api.Member, 15)}
	f := eval.New(l)
	if f.Fields() != 1|4|16|32|128|api.LabelBit || f.Groups() != 1<<3|1<<15 {
		t.Errorf("Fields = %b, Groups = %b", f.Fields(), f.Groups())
	}
	f = eval.New([]api.Node{n(api.And, 0), n(api.All, 0), n(api.Not, 0), n(api.Never, 0)})
	if f.Fields() != 0 || f.Groups() != 0 {
		t.Errorf("Fields and Groups of what asks nothing")
	}
	l = []api.Node{n(api.Has, 1)}
	f = eval.New(l)
	l[0].N = 2
	got := f.Nodes()
	if !slices.Equal(got, []api.Node{n(api.Has, 1)}) {
		t.Errorf("Nodes = %v", got)
	}
	got[0].N = 3
	if f.Nodes()[0].N != 1 || f.Fields() != 2 {
		t.Errorf("a filter shares its nodes")
	}
}

// P13.1
func TestWhatMayNotBe(t *testing.T) {
	for _, l := range [][]api.Node{nil, {n(api.Label, 16)}, {n(api.And, 0)}, {n(api.All, 0), n(api.All, 0)}, append(slices.Repeat([]api.Node{n(api.Not, 0)}, 8), n(api.All, 0))} {
		if eval.New(l) != nil {
			t.Errorf("New(%v) is a filter", l)
		}
	}
	for _, f := range []*eval.Filter{nil} {
		if len(f.Nodes()) != 0 || f.Match(api.Card{}, 0) || f.Fields() != 0 || f.Groups() != 0 {
			t.Errorf("a nil filter")
		}
	}
}

// says is what a tree says, node by node.
func says(l []api.Node, c api.Card, groups uint32) bool {
	x, v := l[0], c.F[l[0].N%8]
	kids := pred.Kids(l, 0)
	switch x.Op {
	case api.All:
		return true
	case api.Never:
		return false
	case api.Label:
		return c.Labels>>x.N&1 == 1
	case api.Member:
		return groups>>x.N&1 == 1
	case api.Has:
		return v.Kind != api.None
	case api.Equals:
		return v == x.V
	case api.Less:
		return v.Kind == x.V.Kind && value.Compare(v, x.V) < 0
	case api.More:
		return v.Kind == x.V.Kind && value.Compare(v, x.V) > 0
	case api.Holds:
		return value.Holds(v, x.V)
	case api.Not:
		return !says(kids[0], c, groups)
	case api.And:
		return says(kids[0], c, groups) && says(kids[1], c, groups)
	}
	return says(kids[0], c, groups) || says(kids[1], c, groups)
}

// P13.1, P13.2, P13.3
func TestAnyFilter(t *testing.T) {
	s := sample.New(13)
	for range 3000 {
		l := s.Fit()
		f := eval.New(l)
		if f == nil {
			t.Fatalf("New(%v) is nil", l)
		}
		for range 10 {
			c, groups := s.Card(1), uint32(s.Below(16))
			is := f.Match(c, groups)
			if is != says(l, c, groups) {
				t.Fatalf("%v says %v of %v", l, is, c)
			}
			d, other := s.Card(2), uint32(s.Below(1<<16))
			for i := range d.F {
				if f.Fields()>>i&1 == 1 {
					d.F[i] = c.F[i]
				}
			}
			if f.Fields()&api.LabelBit != 0 {
				d.Labels = c.Labels
			}
			other = other&^f.Groups() | groups&f.Groups()
			if f.Match(d, other) != is {
				t.Fatalf("%v says another thing of what it does not ask for", l)
			}
			if not := eval.New(pred.Join(api.Not, l)); not != nil && not.Match(c, groups) == is {
				t.Fatalf("Not says the same")
			}
		}
	}
}

// P13.1: many may ask at once.
func TestAskedAtOnce(t *testing.T) {
	f := eval.New([]api.Node{n(api.And, 0), n(api.Label, 1), n(api.Has, 2)})
	var wg sync.WaitGroup
	for range 8 {
		wg.Go(func() {
			if f.Fields() != api.LabelBit|4 || f.Match(api.Card{Labels: 2}, 0) || !f.Match(api.Card{Labels: 2, F: [8]api.Value{2: num(1)}}, 0) {
				t.Errorf("asked at once")
			}
		})
	}
	wg.Wait()
}
