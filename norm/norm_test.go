package norm_test

import (
	"slices"
	"testing"

	"offprint/api"
	"offprint/eval"
	"offprint/norm"
	"offprint/parse"
	"offprint/pred"
	"offprint/sample"
)

func n(op, no int) api.Node { return api.Node{Op: op, N: no} }

func tree(t *testing.T, s string) []api.Node {
	l, _, err := parse.Filter(s)
	if err != api.OK {
		t.Fatalf("%q is no filter", s)
	}
	return l
}

// leaves is a tree of that many parts of one kind, which each have a number.
func leaves(op, many int) []api.Node {
	l := []api.Node{n(api.Label, 0)}
	for i := 1; i < many; i++ {
		l = pred.Join(op, []api.Node{n(api.Label+i/16, i%16)}, l)
	}
	return l
}

// P14.1
func TestFit(t *testing.T) {
	deep := append(slices.Repeat([]api.Node{n(api.Not, 0)}, 62), n(api.All, 0))
	for _, l := range [][]api.Node{{n(api.All, 0)}, deep, leaves(api.Or, 32)} {
		if !norm.Fit(l) {
			t.Errorf("Fit(%v) is false", l)
		}
	}
	for _, l := range [][]api.Node{nil, {n(api.Label, 16)}, {n(api.And, 0), n(api.All, 0)}, {n(api.All, 0), n(api.All, 0)}, append([]api.Node{n(api.Not, 0)}, deep...), {n(api.Not, 1), n(api.All, 0)}, {n(api.Or, 0), n(api.All, 0), n(0, 0)}} {
		if norm.Fit(l) || norm.Of(l) != nil || norm.Turned(l) != nil || norm.Same(l, l) || norm.Same(l, []api.Node{n(api.All, 0)}) || norm.Same([]api.Node{n(api.All, 0)}, l) {
			t.Errorf("%v is fit", l)
		}
	}
}

// P14.1
func TestForms(t *testing.T) {
	for _, c := range []struct{ s, form, turned string }{
		{"all", "all", "never"}, {"never", "never", "all"}, {"not all", "never", "all"}, {"label 1", "label 1", "not label 1"}, {"not label 1", "not label 1", "label 1"}, {"not not label 1", "label 1", "not label 1"},
		{"field 1 < 3", "field 1 < 3", "not field 1 < 3"},
		{"label 2 and label 1", "label 1 and label 2", "not label 1 or not label 2"},
		{"label 2 or label 1", "label 1 or label 2", "not label 1 and not label 2"},
		{"not (label 2 or not label 1)", "label 1 and not label 2", "label 2 or not label 1"},
		{"label 1 and label 1", "label 1", "not label 1"}, {"label 1 or label 1", "label 1", "not label 1"},
		{"label 1 and not label 1", "never", "all"}, {"not label 1 or label 1", "all", "never"},
		{"label 1 and all", "label 1", "not label 1"}, {"label 1 and never", "never", "all"}, {"label 1 or all", "all", "never"}, {"never or label 1", "label 1", "not label 1"}, {"all and all", "all", "never"}, {"never or never", "never", "all"}, {"all or never", "all", "never"}, {"never and all", "never", "all"},
		{"has 3 and (label 2 and label 1)", "label 1 and (label 2 and has 3)", "not label 1 or (not label 2 or not has 3)"},
		{"(has 3 or label 2) or label 1", "label 1 or (label 2 or has 3)", "not label 1 and (not label 2 and not has 3)"},
		{"(label 2 or label 1) and label 3", "label 3 and (label 1 or label 2)", "not label 3 or not label 1 and not label 2"},
		{"(label 1 or label 2) and (label 2 or label 1)", "label 1 or label 2", "not label 1 and not label 2"},
		{"(label 1 or label 2) and not (label 1 or label 2)", "not label 1 and (not label 2 and (label 1 or label 2))", "label 1 or (label 2 or not label 1 and not label 2)"},
		{"label 1 and (label 2 and not label 1)", "never", "all"}, {"label 1 or (has 2 or not label 1)", "all", "never"}, {"(label 1 and not label 1) or label 2", "label 2", "not label 2"}, {"(label 1 or not label 1) and label 2", "label 2", "not label 2"},
		{"member 1 and label 9", "label 9 and member 1", "not label 9 or not member 1"}, {"field 1 = 10 and field 1 = 9", "field 1 = 9 and field 1 = 10", "not field 1 = 9 or not field 1 = 10"},
		{"not (label 1 and (label 2 or not has 3))", "not label 1 or has 3 and not label 2", "label 1 and (label 2 or not has 3)"},
	} {
		l := tree(t, c.s)
		if got := norm.Of(l); !slices.Equal(got, tree(t, c.form)) {
			t.Errorf("Of(%s) = %v", c.s, got)
		}
		if got := norm.Turned(l); !slices.Equal(got, tree(t, c.turned)) {
			t.Errorf("Turned(%s) = %v", c.s, got)
		}
	}
	if got := norm.Turned(leaves(api.Or, 32)); len(got) != 95 || pred.End(got, 0) != 95 {
		t.Errorf("a turned form may have more nodes than are fit: %d", len(got))
	}
}

// P14.1
func TestSame(t *testing.T) {
	for _, c := range []struct {
		a, b string
		is   bool
	}{
		{"label 1 and label 2", "label 2 and label 1", true}, {"label 1", "not not label 1", true}, {"label 1", "label 2", false}, {"all", "label 1 or not label 1", true}, {"label 1 or label 2", "label 1 and label 2", false},
		{"label 1 and (label 2 or label 3)", "label 1 and label 2 or label 1 and label 3", false},
	} {
		if norm.Same(tree(t, c.a), tree(t, c.b)) != c.is || norm.Same(tree(t, c.b), tree(t, c.a)) != c.is {
			t.Errorf("Same(%s, %s) is %v", c.a, c.b, !c.is)
		}
	}
}

// takes tells whether a tree that may be deeper than a filter takes a card.
func takes(l []api.Node, c api.Card, groups uint32) bool {
	kids := pred.Kids(l, 0)
	switch l[0].Op {
	case api.Not:
		return !takes(kids[0], c, groups)
	case api.And:
		return takes(kids[0], c, groups) && takes(kids[1], c, groups)
	case api.Or:
		return takes(kids[0], c, groups) || takes(kids[1], c, groups)
	}
	return eval.New(l).Match(c, groups)
}

// P14.2, P14.3
func TestWhatFormsTake(t *testing.T) {
	s := sample.New(14)
	for range 4000 {
		l, m := s.Filter(1+s.Below(5)), s.Filter(3)
		before := slices.Clone(l)
		form, turned := norm.Of(l), norm.Turned(l)
		for range 8 {
			c, groups := s.Card(1), uint32(s.Below(16))
			if is := takes(l, c, groups); takes(form, c, groups) != is || takes(turned, c, groups) == is {
				t.Fatalf("%v takes other cards than its forms %v and %v", l, form, turned)
			}
		}
		if norm.Fit(form) && !slices.Equal(norm.Of(form), form) || norm.Fit(turned) && !slices.Equal(norm.Of(turned), turned) {
			t.Fatalf("the form of a form of %v is another one", l)
		}
		if norm.Fit(turned) && norm.Fit(form) && !slices.Equal(norm.Turned(turned), form) {
			t.Fatalf("a form turned twice is another one")
		}
		for _, op := range []int{api.And, api.Or} {
			if ab, ba := pred.Join(op, l, m), pred.Join(op, m, l); norm.Fit(ab) && !norm.Same(ab, ba) {
				t.Fatalf("the order of %v and %v is seen", l, m)
			}
			if twice := pred.Join(op, l, l); norm.Fit(twice) && !norm.Same(twice, l) {
				t.Fatalf("%v twice is another one", l)
			}
		}
		for i := range form {
			form[i].Op = 99
		}
		for i := range turned {
			turned[i].Op = 99
		}
		if !slices.Equal(l, before) {
			t.Fatalf("a form shares memory with its tree")
		}
	}
}
