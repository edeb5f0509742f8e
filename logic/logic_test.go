package logic_test

import (
	"slices"
	"testing"

	"offprint/api"
	"offprint/eval"
	"offprint/logic"
	"offprint/norm"
	"offprint/parse"
	"offprint/pred"
	"offprint/sample"
)

func n(op, no int) api.Node { return api.Node{Op: op, N: no} }

func tree(t *testing.T, s string) []api.Node {
	l, _, err := parse.Filter(s)
	if err != api.OK {
		t.Fatalf("%q is no filter", s)
	}
	return l
}

// row is a tree of labels and members, that many atoms in all.
func row(op, many int) []api.Node {
	l := []api.Node{n(api.Label, 0)}
	for i := 1; i < many; i++ {
		l = pred.Join(op, []api.Node{n(api.Label+i/16, i%16)}, l)
	}
	return l
}

// P15.1
func TestAtoms(t *testing.T) {
	got := logic.Atoms(tree(t, "not member 2 and (label 3 or all)"), tree(t, "never or label 1 and label 3"), tree(t, `field 1 ~ "a" or field 1 = 2 and has 7`))
	want := []api.Node{n(api.Label, 1), n(api.Label, 3), n(api.Member, 2), n(api.Has, 7), {Op: api.Equals, N: 1, V: api.Value{Kind: api.Num, N: 2}}, {Op: api.Holds, N: 1, V: api.Value{Kind: api.Text, S: "a"}}}
	if !slices.Equal(got, want) {
		t.Errorf("Atoms = %v", got)
	}
	if len(logic.Atoms()) != 0 || len(logic.Atoms(tree(t, "all and not never"))) != 0 || len(logic.Atoms(row(api.Or, 32))) != 32 {
		t.Errorf("Atoms")
	}
}

// P15.2
func TestMaxAtoms(t *testing.T) {
	if logic.MaxAtoms != 10 {
		t.Errorf("MaxAtoms is %d", logic.MaxAtoms)
	}
}

// P15.1
func TestSays(t *testing.T) {
	atoms := []api.Node{n(api.Label, 1), n(api.Label, 2), n(api.Has, 3)}
	for _, c := range []struct {
		s  string
		on uint32
		is bool
	}{
		{"all", 0, true}, {"never", 7, false}, {"label 1", 1, true}, {"label 1", 6, false}, {"label 2", 2, true}, {"has 3", 4, true}, {"has 3", 3, false},
		{"label 3", 7, false}, {"not label 3", 7, true}, {"label 1 and has 3", 5, true}, {"label 1 and has 3", 4, false}, {"label 1 and has 3", 1, false}, {"label 1 or has 3", 4, true}, {"label 1 or has 3", 2, false}, {"not (label 1 or has 3)", 2, true},
	} {
		if logic.Says(tree(t, c.s), atoms, c.on) != c.is {
			t.Errorf("Says(%s, %b) is %v", c.s, c.on, !c.is)
		}
	}
	many := row(api.And, 32)
	if all := logic.Atoms(many); !logic.Says(many, all, 1<<32-1) || logic.Says(many, all, 1<<31-1) || logic.Says(many, all, 1<<32-2) {
		t.Errorf("Says of 32 atoms")
	}
}

// P15.2
func TestErrors(t *testing.T) {
	all, wrong := tree(t, "all"), []api.Node{n(api.And, 0)}
	for _, c := range []struct {
		a, b []api.Node
		want api.Errno
	}{
		{wrong, all, api.ErrArg}, {all, wrong, api.ErrArg}, {nil, all, api.ErrArg}, {all, nil, api.ErrArg}, {wrong, row(api.Or, 20), api.ErrArg}, {[]api.Node{n(api.Label, 16)}, all, api.ErrArg},
		{row(api.And, 10), row(api.Or, 10), api.OK}, {row(api.And, 11), all, api.ErrLong}, {all, row(api.And, 11), api.ErrLong}, {row(api.And, 10), []api.Node{n(api.Label, 10)}, api.ErrLong}, {row(api.And, 10), []api.Node{n(api.Label, 9)}, api.OK},
	} {
		is, err := logic.Implies(c.a, c.b)
		same, err2 := logic.Equal(c.a, c.b)
		if err != c.want || err2 != c.want || c.want != api.OK && (is || same) {
			t.Errorf("Implies and Equal of %v, %v = %v %d, %v %d", c.a, c.b, is, err, same, err2)
		}
	}
}

// P15.2
func TestImplies(t *testing.T) {
	for _, c := range []struct {
		a, b    string
		is, inv bool
	}{
		{"label 1 and label 2", "label 2", true, false}, {"label 1 and label 2", "not label 3", false, false}, {"never", "label 1", true, false}, {"label 1", "all", true, false}, {"label 1", "label 1", true, true},
		{"label 1 and (label 2 or label 3)", "label 1 and label 2 or label 1 and label 3", true, true}, {"label 1 or not label 1", "all", true, true}, {"has 1", "field 1 = 2", false, false}, {"not (label 1 or label 2)", "not label 1 and not label 2", true, true},
	} {
		a, b := tree(t, c.a), tree(t, c.b)
		is, _ := logic.Implies(a, b)
		inv, _ := logic.Implies(b, a)
		same, _ := logic.Equal(a, b)
		if is != c.is || inv != c.inv || same != (c.is && c.inv) {
			t.Errorf("Implies(%s, %s) = %v, the other way %v, Equal %v", c.a, c.b, is, inv, same)
		}
	}
	for i := range 10 { // each atom has a bit of its own
		one := []api.Node{n(api.Label, i)}
		if is, err := logic.Implies(row(api.And, 10), one); !is || err != api.OK {
			t.Errorf("all labels do not imply the label %d", i)
		}
		if is, err := logic.Implies(pred.Join(api.Not, row(api.Or, 10)), one); is || err != api.OK {
			t.Errorf("no labels imply the label %d", i)
		}
		for j := range 10 {
			if is, _ := logic.Implies(pred.Join(api.And, one, row(api.Or, 10)), []api.Node{n(api.Label, j)}); is != (i == j) {
				t.Errorf("the label %d and the label %d", i, j)
			}
		}
	}
}

// P15.2: of each set of the atoms, set by set.
func TestEachSet(t *testing.T) {
	s := sample.New(15)
	told := [4]int{}
	for range 3000 {
		a, b := s.Filter(1+s.Below(4)), s.Filter(1+s.Below(4))
		if s.Below(3) == 0 {
			b = pred.Join(api.Or, b, a)
		}
		if !norm.Fit(a) || !norm.Fit(b) {
			continue
		}
		atoms := logic.Atoms(a, b)
		implies, err := logic.Implies(a, b)
		equal, _ := logic.Equal(a, b)
		back, _ := logic.Implies(b, a)
		if err != api.OK {
			if len(atoms) <= logic.MaxAtoms {
				t.Fatalf("Implies(%v, %v) = %d", a, b, err)
			}
			continue
		}
		want, same := true, true
		for on := range uint32(1) << len(atoms) {
			x, y := logic.Says(a, atoms, on), logic.Says(b, atoms, on)
			want, same = want && (!x || y), same && x == y
		}
		if implies != want || equal != same || equal != (implies && back) {
			t.Fatalf("Implies(%v, %v) = %v, Equal %v", a, b, implies, equal)
		}
		if implies {
			told[0]++
			c, groups := s.Card(1), uint32(s.Below(16))
			if x, y := eval.New(a), eval.New(b); x != nil && y != nil && x.Match(c, groups) && !y.Match(c, groups) {
				t.Fatalf("%v implies %v, but not of %v", a, b, c)
			}
		} else {
			told[1]++
		}
		if is, err := logic.Implies(a, a); !is || err != api.OK {
			t.Fatalf("%v does not imply itself", a)
		}
		if form := norm.Of(a); norm.Fit(form) {
			if is, err := logic.Equal(a, form); !is || err != api.OK {
				t.Fatalf("%v and its form are not equal", a)
			}
		}
	}
	if told[0] < 100 || told[1] < 100 {
		t.Errorf("too few of a kind: %v", told)
	}
}
