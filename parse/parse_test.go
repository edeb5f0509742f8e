package parse_test

import (
	"slices"
	"strings"
	"testing"

	"offprint/api"
	"offprint/lex"
	"offprint/parse"
	"offprint/pred"
	"offprint/sample"
)

func n(op, no int) api.Node               { return api.Node{Op: op, N: no} }
func nv(op, no int, v api.Value) api.Node { return api.Node{Op: op, N: no, V: v} }
func num(n int) api.Value                 { return api.Value{Kind: api.Num, N: n} }
func text(s string) api.Value             { return api.Value{Kind: api.Text, S: s} }

// P11.1
func TestTrees(t *testing.T) {
	and, or, not, all := n(api.And, 0), n(api.Or, 0), n(api.Not, 0), n(api.All, 0)
	l1, l2, l3 := n(api.Label, 1), n(api.Label, 2), n(api.Label, 3)
	for s, want := range map[string][]api.Node{
		"all": {all}, " never ": {n(api.Never, 0)}, "label 15": {n(api.Label, 15)}, "member 0": {n(api.Member, 0)}, "member15": {n(api.Member, 15)}, "has 7": {n(api.Has, 7)},
		"field 0 = 12": {nv(api.Equals, 0, num(12))}, `field 7="a"`: {nv(api.Equals, 7, text("a"))}, "field 1 < 0": {nv(api.Less, 1, num(0))}, `field 1 < ""`: {nv(api.Less, 1, text(""))},
		"field 2>1099511627776": {nv(api.More, 2, num(api.MaxNum))}, `field 2 > "\""`: {nv(api.More, 2, text(`"`))}, `field 3 ~ "bc"`: {nv(api.Holds, 3, text("bc"))},
		"label 1 and not has 2":            {and, l1, not, n(api.Has, 2)},
		"label 1 or label 2 or label 3":    {or, or, l1, l2, l3},
		"label 1 and label 2 and label 3":  {and, and, l1, l2, l3},
		"label 1 or label 2 and label 3":   {or, l1, and, l2, l3},
		"label 1 and label 2 or label 3":   {or, and, l1, l2, l3},
		"(label 1 or label 2) and label 3": {and, or, l1, l2, l3},
		"label 1 or (label 2 or label 3)":  {or, l1, or, l2, l3},
		"not label 1 and label 2":          {and, not, l1, l2},
		"not (label 1 and label 2)":        {not, and, l1, l2},
		"not not all":                      {not, not, all}, "(((all)))": {all},
		"((" + strings.Repeat("(", 400) + "label 1" + strings.Repeat(")", 402): {l1},
	} {
		got, at, err := parse.Filter(s)
		if !slices.Equal(got, want) || at != 0 || err != api.OK {
			t.Errorf("Filter(%q) = %v, %d, %d", s, got, at, err)
		}
	}
}

// P11.1
func TestErrors(t *testing.T) {
	for _, c := range []struct {
		s   string
		at  int
		err api.Errno
	}{
		{"", 0, api.ErrForm}, {"   ", 3, api.ErrForm}, {"label 1 or", 10, api.ErrForm}, {"label 1 or ", 11, api.ErrForm}, {"label", 5, api.ErrForm}, {"field 1", 7, api.ErrForm}, {"field 1 =", 9, api.ErrForm}, {"not", 3, api.ErrForm}, {"(all", 4, api.ErrForm}, {"(", 1, api.ErrForm},
		{"all all", 4, api.ErrForm}, {"all )", 4, api.ErrForm}, {"()", 1, api.ErrForm}, {")", 0, api.ErrForm}, {"and all", 0, api.ErrForm}, {"all and or all", 8, api.ErrForm}, {"labels 1", 0, api.ErrForm}, {"all xor all", 4, api.ErrForm}, {"all not all", 4, api.ErrForm},
		{"label x", 6, api.ErrForm}, {`label "1"`, 6, api.ErrForm}, {"label = 1", 6, api.ErrForm}, {"field 1 1", 8, api.ErrForm}, {"field 1 ( 1", 8, api.ErrForm}, {"field 1 = all", 10, api.ErrForm}, {"field 1 ~ 1", 10, api.ErrForm}, {"field x = 1", 6, api.ErrForm}, {"7", 0, api.ErrForm}, {`"all"`, 0, api.ErrForm}, {"= 1", 0, api.ErrForm}, {"not 1", 4, api.ErrForm},
		{"label 16", 6, api.ErrArg}, {"member 16", 7, api.ErrArg}, {"has 8", 4, api.ErrArg}, {"field 8 = 1", 6, api.ErrArg}, {"label 1099511627776", 6, api.ErrArg},
		{"label 16 )", 6, api.ErrArg}, {") label 16", 0, api.ErrForm}, {"all or label 99 or", 13, api.ErrArg}, {"field 8 8 8", 6, api.ErrArg}, {"all all label 16", 4, api.ErrForm}, {"field 1 ~ 1 or label 16", 10, api.ErrForm},
		{"label 16 ?", 9, api.ErrForm}, {"label 016", 6, api.ErrForm}, {"ALL", 0, api.ErrForm}, {`field 1 = "a`, 10, api.ErrForm}, {"all or 1099511627777", 7, api.ErrForm}, {strings.Repeat(" ", 1001), 0, api.ErrLong},
		{strings.Repeat("(", 1000), 1000, api.ErrForm}, {strings.Repeat("not ", 250), 1000, api.ErrForm},
		{strings.Repeat("not ", 8) + "all", 0, api.ErrDeep}, {strings.Repeat("all or ", 15) + "all", 0, api.ErrDeep}, {strings.Repeat("all or ", 16) + "all", 0, api.ErrLong}, {strings.Repeat("not ", 240) + "all", 0, api.ErrLong},
		{strings.Repeat("all or ", 16) + "label 16", 118, api.ErrArg}, {strings.Repeat("all or ", 16) + "x", 112, api.ErrForm},
	} {
		got, at, err := parse.Filter(c.s)
		if got != nil || at != c.at || err != c.err {
			t.Errorf("Filter(%q) = %v, %d, %d; want %d, %d", c.s, got, at, err, c.at, c.err)
		}
	}
	for s, want := range map[string]api.Errno{strings.Repeat("not ", 7) + "all": api.OK, strings.Repeat("all or ", 7) + "all": api.OK, strings.Repeat("all or ", 8) + "all": api.ErrDeep} {
		if _, _, err := parse.Filter(s); err != want {
			t.Errorf("Filter(%q) = %d", s, err)
		}
	}
}

// P11.2
func TestWhatIsReadMayBe(t *testing.T) {
	s := sample.New(11)
	words := []string{"all", "never", "not", "and", "or", "and", "or", "(", ")", "label 1", "has 2", "member 3", `field 1 = "x"`, "field 2 > 3", `field 0 ~ "q"`, "label", "7"}
	read := 0
	for range 60000 {
		var l []string
		for range 1 + s.Below(7) {
			l = append(l, words[s.Below(len(words))])
		}
		one := strings.Join(l, " ")
		tree, _, err := parse.Filter(one)
		if err != api.OK {
			continue
		}
		read++
		if pred.Check(tree) != api.OK {
			t.Fatalf("%q is read as what may not be", one)
		}
		var spread strings.Builder
		from := 0
		for w := range lex.Each(one) {
			spread.WriteString(one[from:w.At] + strings.Repeat(" ", s.Below(3)))
			from = w.At
		}
		spread.WriteString(one[from:] + "  ")
		again, _, err := parse.Filter(spread.String())
		if err != api.OK || !slices.Equal(again, tree) {
			t.Fatalf("%q is read otherwise than %q", spread.String(), one)
		}
	}
	if read < 500 {
		t.Errorf("too few were read: %d", read)
	}
}
