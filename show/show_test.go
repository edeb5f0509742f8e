package show_test

import (
	"slices"
	"testing"

	"offprint/api"
	"offprint/parse"
	"offprint/pred"
	"offprint/sample"
	"offprint/show"
)

func n(op, no int) api.Node               { return api.Node{Op: op, N: no} }
func nv(op, no int, v api.Value) api.Node { return api.Node{Op: op, N: no, V: v} }
func num(n int) api.Value                 { return api.Value{Kind: api.Num, N: n} }
func text(s string) api.Value             { return api.Value{Kind: api.Text, S: s} }

var (
	and, or, not = n(api.And, 0), n(api.Or, 0), n(api.Not, 0)
	l1, l2, h3   = n(api.Label, 1), n(api.Label, 2), n(api.Has, 3)
)

// P12.1
func TestText(t *testing.T) {
	for want, l := range map[string][]api.Node{
		"all": {n(api.All, 0)}, "never": {n(api.Never, 0)}, "label 15": {n(api.Label, 15)}, "member 10": {n(api.Member, 10)}, "has 0": {n(api.Has, 0)},
		"field 7 = 12": {nv(api.Equals, 7, num(12))}, `field 0 = "a\"b"`: {nv(api.Equals, 0, text(`a"b`))}, "field 1 < 1099511627776": {nv(api.Less, 1, num(api.MaxNum))}, `field 2 > ""`: {nv(api.More, 2, text(""))}, `field 3 ~ "\x00"`: {nv(api.Holds, 3, text("\x00"))},
		"not label 1": {not, l1}, "not not label 1": {not, not, l1}, "not (label 1 and label 2)": {not, and, l1, l2}, "not (label 1 or label 2)": {not, or, l1, l2},
		"label 1 and label 2": {and, l1, l2}, "label 1 or label 2": {or, l1, l2},
		"(label 1 or label 2) and has 3":        {and, or, l1, l2, h3},
		"label 1 and label 2 and has 3":         {and, and, l1, l2, h3},
		"label 1 and (label 2 and has 3)":       {and, l1, and, l2, h3},
		"label 1 and (label 2 or has 3)":        {and, l1, or, l2, h3},
		"label 1 or label 2 or has 3":           {or, or, l1, l2, h3},
		"label 1 or (label 2 or has 3)":         {or, l1, or, l2, h3},
		"label 1 and label 2 or has 3":          {or, and, l1, l2, h3},
		"label 1 or label 2 and has 3":          {or, l1, and, l2, h3},
		"not label 1 and not label 2":           {and, not, l1, not, l2},
		"not label 1 or not (label 2 or has 3)": {or, not, l1, not, or, l2, h3},
	} {
		if got := show.Text(l); got != want {
			t.Errorf("Text(%v) = %q, want %q", l, got, want)
		}
	}
}

// P12.1
func TestTextOfWhatMayNotBe(t *testing.T) {
	deep := append(slices.Repeat([]api.Node{not}, 8), l1)
	for _, l := range [][]api.Node{nil, {n(api.Label, 16)}, {and, l1}, {l1, l2}, {nv(api.Holds, 0, num(1))}, deep, slices.Repeat([]api.Node{l1}, 32), {{}}} {
		if got := show.Text(l); got != "" {
			t.Errorf("Text(%v) = %q", l, got)
		}
	}
}

// P12.1
func TestLines(t *testing.T) {
	if got := show.Lines([][]api.Node{{l1}, nil, {not, l2}}); got != "label 1\n\nnot label 2\n" {
		t.Errorf("Lines = %q", got)
	}
	if got := show.Lines(nil); got != "" {
		t.Errorf("Lines of none = %q", got)
	}
}

// P12.2
func TestReadOfText(t *testing.T) {
	s := sample.New(12)
	texts := map[string][]api.Node{}
	for range 5000 {
		l := s.Filter(1 + s.Below(8))
		if pred.Check(l) != api.OK {
			if show.Text(l) != "" {
				t.Fatalf("Text of what may not be")
			}
			continue
		}
		one := show.Text(l)
		if one == "" {
			t.Fatalf("Text(%v) = %q", l, one)
		}
		if other, ok := texts[one]; ok && !slices.Equal(other, l) {
			t.Fatalf("unlike filters have the text %q", one)
		}
		texts[one] = l
		got, _, err := parse.Filter(one)
		if len(one) <= 1000 && (err != api.OK || !slices.Equal(got, l)) {
			t.Fatalf("%q is read as %v, %d", one, got, err)
		}
	}
}
