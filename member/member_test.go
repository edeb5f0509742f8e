package member_test

import (
	"math"
	"slices"
	"testing"

	"offprint/api"
	"offprint/book"
	"offprint/card"
	"offprint/eval"
	"offprint/member"
	"offprint/pred"
	"offprint/sample"
)

var (
	plain  = api.Patch{Mask: api.LabelBit, Labels: 2}
	fields = api.Patch{Mask: 3, F: [8]api.Value{{Kind: api.Num, N: 7}, {Kind: api.Text, S: "x"}}}
	labels = eval.New([]api.Node{{Op: api.Label, N: 1}})
	all    = eval.New([]api.Node{{Op: api.All}})
)

// some is a book of five cards, of which the second one was deleted.
func some() *book.Book {
	b := book.New()
	for _, p := range []api.Patch{plain, plain, fields, plain, fields} {
		b.Do(api.Edit{Kind: api.Create, Patch: p})
	}
	b.Do(api.Edit{Kind: api.Delete, ID: 2})
	b.Do(api.Edit{Kind: api.Open, Group: 3})
	b.Do(api.Edit{Kind: api.Join, Group: 3, ID: 5})
	return b
}

// P22.1
func TestShown(t *testing.T) {
	b := some()
	inGroup := eval.New([]api.Node{{Op: api.Member, N: 3}})
	if c, ok := member.Shown(b, labels, 1); !ok || c != card.Fresh(1, plain) {
		t.Errorf("Shown = %v, %v", c, ok)
	}
	for _, id := range []int{2, 3, 6, 0, -1, math.MaxInt} {
		if c, ok := member.Shown(b, labels, id); ok || c != (api.Card{}) {
			t.Errorf("Shown of %d = %v, %v", id, c, ok)
		}
	}
	if c, ok := member.Shown(b, inGroup, 5); !ok || c.ID != 5 {
		t.Errorf("Shown of a member = %v, %v", c, ok)
	}
	if !slices.Equal(member.IDs(b, labels), []int{1, 4}) || !slices.Equal(member.IDs(b, all), []int{1, 3, 4, 5}) || !slices.Equal(member.IDs(b, inGroup), []int{5}) || len(member.IDs(b, eval.New([]api.Node{{Op: api.Never}}))) != 0 {
		t.Errorf("IDs")
	}
	if got := member.Ideal(b, all, 1, 4); !card.Same(got, []api.Card{{ID: 1, Ver: 1}, {ID: 3, Ver: 1, F: [8]api.Value{{Kind: api.Num, N: 7}}}, {ID: 4, Ver: 1}}) {
		t.Errorf("Ideal = %v", got)
	}
	if got := member.Ideal(b, labels, api.LabelBit, api.MaxID); !card.Same(got, []api.Card{{ID: 1, Ver: 1, Labels: 2}, {ID: 4, Ver: 1, Labels: 2}}) {
		t.Errorf("Ideal = %v", got)
	}
	if got := member.Ideal(b, all, 0, 1); !card.Same(got, []api.Card{{ID: 1, Ver: 1}}) || len(member.Ideal(b, all, 0, 0)) != 0 || len(member.Ideal(b, all, 0, -5)) != 0 {
		t.Errorf("Ideal of a cursor = %v", got)
	}
}

// P22.1
func TestNilOnes(t *testing.T) {
	b := some()
	for _, x := range []struct {
		b *book.Book
		f *eval.Filter
	}{{nil, all}, {b, nil}, {nil, nil}} {
		c, ok := member.Shown(x.b, x.f, 1)
		in, out, other := member.Lacks(x.b, x.f, 0, 9, nil)
		if ok || c != (api.Card{}) || len(member.IDs(x.b, x.f)) != 0 || len(member.Ideal(x.b, x.f, 1, 9)) != 0 || len(in)+len(out)+len(other) != 0 {
			t.Errorf("nil ones show something")
		}
	}
}

// P22.2
func TestLacks(t *testing.T) {
	b := some()
	have := []api.Card{{ID: 1, Ver: 1}, {ID: 2, Ver: 1}, {ID: 3, Ver: 1}, {ID: 4, Ver: 2}, {ID: 9, Ver: 1}}
	in, out, other := member.Lacks(b, all, 1, api.MaxID, have)
	if !slices.Equal(in, []int{5}) || !slices.Equal(out, []int{2, 9}) || !slices.Equal(other, []int{3, 4}) {
		t.Errorf("Lacks = %v, %v, %v", in, out, other)
	}
	in, out, other = member.Lacks(b, all, 1, 3, have)
	if len(in) != 0 || !slices.Equal(out, []int{2, 4, 9}) || !slices.Equal(other, []int{3}) {
		t.Errorf("Lacks up to 3 = %v, %v, %v", in, out, other)
	}
	in, out, other = member.Lacks(b, labels, 1, api.MaxID, nil)
	if !slices.Equal(in, []int{1, 4}) || len(out) != 0 || len(other) != 0 {
		t.Errorf("Lacks of none = %v, %v, %v", in, out, other)
	}
}

// P22.3, P22.4
func TestAnyBook(t *testing.T) {
	s := sample.New(22)
	b := book.New()
	for range 1500 {
		b.Do(s.Edit(b.Data().Next))
		l, m, cursor := s.Filter(4), s.Mask(), s.Below(b.Data().Next+2)
		f, not := eval.New(l), eval.New(pred.Join(api.Not, l))
		ideal := member.Ideal(b, f, m, cursor)
		var want []api.Card
		for _, c := range b.Cards() {
			if c.ID <= cursor && f.Match(c, b.Groups(c.ID)) {
				want = append(want, card.Project(c, m))
			}
			_, yes := member.Shown(b, f, c.ID)
			_, no := member.Shown(b, not, c.ID)
			if not != nil && yes == no {
				t.Fatalf("the card %d is shown by both, or none, of %v and Not of it", c.ID, l)
			}
		}
		if !card.Same(ideal, want) {
			t.Fatalf("Ideal = %v, want %v", ideal, want)
		}
		if f != nil && not != nil {
			both := append(member.IDs(b, f), member.IDs(b, not)...)
			if slices.Sort(both); len(both) != len(b.Cards()) || len(slices.Compact(both)) != len(b.Cards()) {
				t.Fatalf("%v and Not of it show %v", l, both)
			}
		}
		have := slices.Clone(ideal)
		if len(have) > 0 {
			switch at := s.Below(len(have)); s.Below(4) {
			case 0:
				have = slices.Delete(have, at, at+1)
			case 1:
				have[at].Ver++
			case 2:
				have[at].F[s.Below(8)].N++
			}
		}
		in, out, other := member.Lacks(b, f, m, cursor, have)
		if (len(in)+len(out)+len(other) == 0) != card.Same(have, ideal) {
			t.Fatalf("Lacks = %v, %v, %v of %v, ideal %v", in, out, other, have, ideal)
		}
	}
}
