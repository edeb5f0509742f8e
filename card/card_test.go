package card_test

import (
	"math"
	"strings"
	"testing"

	"offprint/api"
	"offprint/card"
	"offprint/sample"
)

var (
	seven = api.Value{Kind: api.Num, N: 7}
	word  = api.Value{Kind: api.Text, S: "word"}
	bad   = api.Value{Kind: api.Text, S: strings.Repeat("x", api.MaxText+1)}
)

// P6.1
func TestCheck(t *testing.T) {
	good := api.Card{ID: 1, Ver: 1}
	for _, change := range []func(c *api.Card){
		func(c *api.Card) {}, func(c *api.Card) { c.ID = api.MaxID - 1 }, func(c *api.Card) { c.Ver = api.MaxNum },
		func(c *api.Card) { c.Labels = 1<<api.Labels - 1 }, func(c *api.Card) { c.F[7] = word }, func(c *api.Card) { c.F[0] = seven },
	} {
		c := good
		if change(&c); !card.Check(c) {
			t.Errorf("Check(%v) is false", c)
		}
	}
	for _, change := range []func(c *api.Card){
		func(c *api.Card) { c.ID = 0 }, func(c *api.Card) { c.ID = -1 }, func(c *api.Card) { c.ID = api.MaxID }, func(c *api.Card) { c.ID = math.MinInt },
		func(c *api.Card) { c.Ver = 0 }, func(c *api.Card) { c.Ver = -3 }, func(c *api.Card) { c.Ver = api.MaxNum + 1 },
		func(c *api.Card) { c.Labels = 1 << api.Labels }, func(c *api.Card) { c.Labels = math.MaxUint32 },
		func(c *api.Card) { c.F[0] = bad }, func(c *api.Card) { c.F[7] = bad }, func(c *api.Card) { c.F[3] = api.Value{N: 1} },
	} {
		c := good
		if change(&c); card.Check(c) {
			t.Errorf("Check(%v) is true", c)
		}
	}
}

// P6.1
func TestCheckPatch(t *testing.T) {
	field := func(i int, v api.Value) (f [api.Fields]api.Value) { f[i] = v; return f }
	for _, c := range []struct {
		p    api.Patch
		want api.Errno
	}{
		{api.Patch{Mask: 1}, api.OK}, {api.Patch{Mask: 1, F: field(0, seven)}, api.OK}, {api.Patch{Mask: 128, F: field(7, word)}, api.OK},
		{api.Patch{Mask: api.LabelBit, Labels: 1<<api.Labels - 1}, api.OK}, {api.Patch{Mask: api.AllMask}, api.OK}, {api.Patch{Mask: api.LabelBit}, api.OK},
		{api.Patch{}, api.ErrMask}, {api.Patch{Mask: api.AllMask + 1}, api.ErrMask}, {api.Patch{Mask: 1 << 31}, api.ErrMask},
		{api.Patch{Labels: 1}, api.ErrMask}, {api.Patch{Mask: api.AllMask + 2, F: field(0, bad)}, api.ErrMask},
		{api.Patch{Mask: 1, Labels: 1}, api.ErrArg}, {api.Patch{Mask: api.LabelBit, Labels: 1 << api.Labels}, api.ErrArg},
		{api.Patch{Mask: 1, F: field(1, seven)}, api.ErrArg}, {api.Patch{Mask: 1, F: field(0, bad)}, api.ErrArg}, {api.Patch{Mask: api.LabelBit, F: field(7, word)}, api.ErrArg},
		{api.Patch{Mask: 1, F: field(2, api.Value{N: 1})}, api.ErrArg}, {api.Patch{Mask: 4, F: field(2, api.Value{S: "a"})}, api.ErrArg},
	} {
		if got := card.CheckPatch(c.p); got != c.want {
			t.Errorf("CheckPatch(%v) = %d, want %d", c.p, got, c.want)
		}
	}
}

// has tells whether a mask has a field.
func has(m uint32, f int) bool { return m>>f&1 == 1 }

// P6.2, P6.4, P6.5
func TestWhatMasksShow(t *testing.T) {
	s := sample.New(6)
	for range 1000 {
		c, p, m := s.Card(1+s.Below(9)), s.Patch(), s.Mask()
		shown, of, merged, fresh := card.Project(c, m), card.Of(c, m), card.Merge(c, p), card.Fresh(5, p)
		if shown.ID != c.ID || shown.Ver != c.Ver || of.Mask != m || merged.ID != c.ID || merged.Ver != c.Ver+1 || fresh.ID != 5 || fresh.Ver != 1 {
			t.Fatalf("numbers and versions of %v", c)
		}
		for f := range api.Fields {
			in, zero := has(m, f), api.Value{}
			if in && (shown.F[f] != c.F[f] || of.F[f] != c.F[f]) || !in && (shown.F[f] != zero || of.F[f] != zero) {
				t.Fatalf("the field %d of %b", f, m)
			}
			in = has(p.Mask, f)
			if in && (merged.F[f] != p.F[f] || fresh.F[f] != p.F[f]) || !in && (merged.F[f] != c.F[f] || fresh.F[f] != zero) {
				t.Fatalf("the field %d of the patch %b", f, p.Mask)
			}
		}
		in := has(m, api.Fields)
		if in && (shown.Labels != c.Labels || of.Labels != c.Labels) || !in && (shown.Labels != 0 || of.Labels != 0) {
			t.Fatalf("the labels of %b", m)
		}
		in = has(p.Mask, api.Fields)
		if in && (merged.Labels != p.Labels || fresh.Labels != p.Labels) || !in && (merged.Labels != c.Labels || fresh.Labels != 0) {
			t.Fatalf("the labels of the patch %b", p.Mask)
		}
		n := s.Mask()
		if card.Project(shown, n) != card.Project(c, m&n) {
			t.Fatalf("Project of Project")
		}
		back := card.Merge(card.Merge(c, p), card.Of(c, api.AllMask))
		back.Ver = c.Ver
		if back != c {
			t.Fatalf("a card is not Merge of Of of itself")
		}
	}
	c := api.Card{ID: 1, Ver: api.MaxNum}
	if card.Merge(c, api.Patch{Mask: 1, F: [8]api.Value{seven}}).Ver != api.MaxNum || card.Merge(api.Card{ID: 1, Ver: api.MaxNum - 1}, api.Patch{Mask: 1}).Ver != api.MaxNum {
		t.Errorf("the version above MaxNum")
	}
	if got := card.Fresh(4, api.Patch{Mask: 1, Labels: 3, F: [8]api.Value{seven, word}}); got != (api.Card{ID: 4, Ver: 1, F: [8]api.Value{seven}}) {
		t.Errorf("Fresh has what its mask does not tell: %v", got)
	}
}

// P6.3
func TestDiffAndSame(t *testing.T) {
	a := api.Card{ID: 1, Ver: 1, Labels: 3, F: [8]api.Value{seven, word}}
	b := a
	b.ID, b.Ver = 2, 9
	if card.Diff(a, a) != 0 || card.Diff(a, b) != 0 {
		t.Errorf("Diff of like ones")
	}
	b.Labels, b.F[1], b.F[7] = 1, seven, word
	if got := card.Diff(a, b); got != api.LabelBit|2|128 {
		t.Errorf("Diff = %b", got)
	}
	b.Labels = 3
	if got := card.Diff(b, a); got != 2|128 {
		t.Errorf("Diff = %b", got)
	}
	c := a
	c.F[5].N = 1
	if !card.Same(nil, nil) || !card.Same(nil, []api.Card{}) || !card.Same([]api.Card{a, b}, []api.Card{a, b}) {
		t.Errorf("Same of like lists")
	}
	v, i := a, a
	v.Ver, i.ID = 2, 2
	for _, l := range [][]api.Card{nil, {a}, {b, a}, {a, b, a}, {c, b}, {v, b}, {i, b}, {a, a}} {
		if card.Same([]api.Card{a, b}, l) || card.Same(l, []api.Card{a, b}) {
			t.Errorf("Same of %v", l)
		}
	}
}
