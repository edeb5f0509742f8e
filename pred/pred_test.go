package pred_test

import (
	"math"
	"slices"
	"strings"
	"testing"

	"offprint/api"
	"offprint/pred"
	"offprint/sample"
)

func n(op, no int) api.Node               { return api.Node{Op: op, N: no} }
func nv(op, no int, v api.Value) api.Node { return api.Node{Op: op, N: no, V: v} }
func num(n int) api.Value                 { return api.Value{Kind: api.Num, N: n} }
func text(s string) api.Value             { return api.Value{Kind: api.Text, S: s} }
func list(l ...api.Node) []api.Node       { return l }
func same(a, b []api.Node) bool           { return slices.Equal(a, b) }
func many(op, times int) (out []api.Node) {
	for range times {
		out = append(out, n(op, 0))
	}
	return out
}

// P10.1
func TestNode(t *testing.T) {
	for _, x := range []api.Node{
		n(api.All, 0), n(api.Never, 0), n(api.Label, 0), n(api.Label, 15), n(api.Member, 0), n(api.Member, 15), n(api.Has, 0), n(api.Has, 7),
		nv(api.Equals, 7, num(0)), nv(api.Equals, 0, text("")), nv(api.Less, 7, num(api.MaxNum)), nv(api.Less, 0, text("a")), nv(api.More, 0, num(3)), nv(api.More, 7, text("a")),
		nv(api.Holds, 7, text(strings.Repeat("x", 24))), n(api.Not, 0), n(api.And, 0), n(api.Or, 0),
	} {
		if !pred.Node(x) {
			t.Errorf("Node(%v) is false", x)
		}
	}
	bad := []api.Node{
		{}, n(-1, 0), n(13, 0), n(math.MaxInt, 0), n(api.Label, 16), n(api.Label, -1), n(api.Member, 16), n(api.Member, -1), n(api.Has, 8), n(api.Has, -1),
		n(api.Equals, 0), n(api.Less, 0), n(api.More, 0), n(api.Holds, 0), nv(api.Holds, 0, num(1)), nv(api.Holds, 0, text(strings.Repeat("x", 25))),
	}
	for _, op := range []int{api.Equals, api.Less, api.More} {
		bad = append(bad, nv(op, 8, num(1)), nv(op, -1, num(1)), nv(op, 0, num(-1)), nv(op, 0, num(api.MaxNum+1)), nv(op, 0, api.Value{Kind: 3}), nv(op, 0, api.Value{Kind: api.Text, N: 1}))
	}
	bad = append(bad, nv(api.Holds, 8, text("a")), nv(api.Holds, -1, text("a")))
	for _, op := range []int{api.All, api.Never, api.Not, api.And, api.Or} {
		bad = append(bad, n(op, 1), n(op, -1), nv(op, 0, num(0)), nv(op, 0, api.Value{N: 1}), nv(op, 0, api.Value{S: "a"}))
	}
	for _, op := range []int{api.Label, api.Member, api.Has} {
		bad = append(bad, nv(op, 0, num(0)), nv(op, 0, api.Value{S: "a"}), nv(op, 0, text("a")))
	}
	for _, x := range bad {
		if pred.Node(x) {
			t.Errorf("Node(%v) is true", x)
		}
	}
}

// P10.1
func TestParts(t *testing.T) {
	for op := -3; op < 20; op++ {
		want := map[int]int{api.Not: 1, api.And: 2, api.Or: 2}[op]
		if got := pred.Parts(op); got != want {
			t.Errorf("Parts(%d) = %d", op, got)
		}
	}
}

// P10.1
func TestEnd(t *testing.T) {
	l := list(n(api.And, 0), n(api.Not, 0), n(api.Label, 3), n(api.Or, 5), n(99, 0), n(api.Has, 1), n(api.All, 0), n(api.And, 0), n(api.All, 0))
	for at, want := range map[int]int{0: 6, 1: 3, 2: 3, 3: 6, 4: 5, 5: 6, 6: 7, 7: -1, 8: 9, 9: -1, 10: -1, -1: -1, math.MinInt: -1, math.MaxInt: -1} {
		if got := pred.End(l, at); got != want {
			t.Errorf("End(%d) = %d, want %d", at, got, want)
		}
	}
	if pred.End(nil, 0) != -1 {
		t.Errorf("End of no nodes")
	}
}

// P10.1
func TestCheck(t *testing.T) {
	deep8 := append(many(api.Not, 7), n(api.All, 0))
	wide := append(many(api.And, 1), append(many(api.Not, 6), n(api.All, 0))...)
	right := func(leaves int) (out []api.Node) { // as deep as there are leaves
		for range leaves - 1 {
			out = append(out, n(api.And, 0), n(api.All, 0))
		}
		return append(out, n(api.All, 0))
	}
	full := list(n(api.All, 0))
	for range 3 {
		full = pred.Join(api.Or, full, full)
	}
	full = pred.Join(api.And, full, full) // 31 nodes
	for _, c := range []struct {
		l    []api.Node
		want api.Errno
	}{
		{list(n(api.All, 0)), api.OK}, {list(n(api.Not, 0), n(api.Label, 3)), api.OK}, {deep8, api.OK}, {right(8), api.OK}, {full, api.OK},
		{nil, api.ErrArg}, {list(n(api.And, 0), n(api.All, 0)), api.ErrArg}, {list(n(api.All, 0), n(api.All, 0)), api.ErrArg}, {list(n(api.Label, 16)), api.ErrArg}, {list(n(api.Not, 0)), api.ErrArg},
		{append(many(api.Not, 1), deep8...), api.ErrDeep}, {append(wide, append(many(api.Not, 1), deep8...)...), api.ErrDeep}, {right(9), api.ErrDeep},
		{append(many(api.Not, 9), n(api.Label, 16)), api.ErrArg}, {many(api.Not, 9), api.ErrArg},
		{many(api.All, 32), api.ErrLong}, {append(slices.Clone(full), n(99, 0)), api.ErrLong}, {append(many(api.Not, 30), n(api.All, 0)), api.ErrDeep}, {append(many(api.Not, 31), n(api.All, 0)), api.ErrLong},
	} {
		if got := pred.Check(c.l); got != c.want {
			t.Errorf("Check(%v) = %d, want %d", c.l, got, c.want)
		}
	}
}

// P10.2
func TestKidsAndDepth(t *testing.T) {
	l := list(n(api.And, 0), n(api.Not, 0), n(api.Label, 3), n(api.Or, 0), n(api.Has, 0), n(api.Has, 1))
	for at, want := range map[int][][]api.Node{0: {l[1:3], l[3:6]}, 1: {l[2:3]}, 2: nil, 3: {l[4:5], l[5:6]}, 5: nil, 6: nil, -1: nil, math.MaxInt: nil, math.MinInt: nil} {
		if got := pred.Kids(l, at); !slices.EqualFunc(got, want, same) {
			t.Errorf("Kids(%d) = %v", at, got)
		}
	}
	kids := pred.Kids(l, 0)
	_ = append(kids[0], n(77, 0))
	kids[1][0].Op = 77
	if l[3].Op != api.Or || kids[1][0].Op != 77 {
		t.Errorf("Kids share memory")
	}
	for _, c := range []struct {
		l    []api.Node
		want int
	}{
		{nil, 0}, {list(n(api.All, 0)), 1}, {list(n(99, 3)), 1}, {l, 3}, {list(n(api.Not, 0)), 0}, {list(n(api.All, 0), n(api.All, 0)), 0}, {append(many(api.Not, 40), n(api.All, 0)), 41}, {append(many(api.Not, 60000), n(api.All, 0)), 60001},
		{list(n(api.Or, 0), n(api.All, 0), n(api.Not, 0), n(api.Not, 0), n(api.All, 0)), 4}, {list(n(api.Or, 0), n(api.Not, 0), n(api.Not, 0), n(api.All, 0), n(api.All, 0)), 4},
	} {
		if got := pred.Depth(c.l); got != c.want {
			t.Errorf("Depth of %d nodes = %d, want %d", len(c.l), got, c.want)
		}
	}
}

// P10.2
func TestCompare(t *testing.T) {
	rising := [][]api.Node{
		nil, list(n(-1, 0)), list(n(api.All, 0)), list(n(api.All, 0), n(api.All, 0)), list(n(api.All, 1)), list(n(api.Label, -1)), list(n(api.Label, 0)), list(n(api.Label, 2)), list(n(api.Member, 0)),
		list(nv(api.Equals, 0, num(2))), list(nv(api.Equals, 0, num(10))), list(nv(api.Equals, 0, text("a"))), list(nv(api.Equals, 1, num(0))), list(n(api.Not, 0), n(api.All, 0)), list(n(api.Not, 0), n(api.Label, 0)), list(n(api.Or, 0)),
	}
	for i, a := range rising {
		for j, b := range rising {
			want := 0
			if i < j {
				want = -1
			} else if i > j {
				want = 1
			}
			if got := pred.Compare(a, b); got != want {
				t.Errorf("Compare(%v, %v) = %d", a, b, got)
			}
		}
	}
}

// P10.2, P10.3
func TestJoin(t *testing.T) {
	s := sample.New(10)
	if got := pred.Join(api.Not); !same(got, list(n(api.Not, 0))) {
		t.Errorf("Join of no parts = %v", got)
	}
	for range 500 {
		a, b := s.Filter(4), s.Filter(4)
		and, not := pred.Join(api.And, a, b), pred.Join(api.Not, b)
		if !same(and, append(append(list(n(api.And, 0)), a...), b...)) || !same(not, append(list(n(api.Not, 0)), b...)) {
			t.Fatalf("Join of %v and %v = %v", a, b, and)
		}
		if pred.End(and, 0) != len(and) || !slices.EqualFunc(pred.Kids(and, 0), [][]api.Node{a, b}, same) || !slices.EqualFunc(pred.Kids(not, 0), [][]api.Node{b}, same) {
			t.Fatalf("Kids of what was joined of %v and %v", a, b)
		}
		if pred.Depth(and) != 1+max(pred.Depth(a), pred.Depth(b)) || pred.Depth(not) != 1+pred.Depth(b) {
			t.Fatalf("Depth of what was joined of %v and %v", a, b)
		}
	}
}
