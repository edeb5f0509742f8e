package fill_test

import (
	"math"
	"testing"

	"offprint/api"
	"offprint/book"
	"offprint/card"
	"offprint/eval"
	"offprint/fill"
	"offprint/member"
	"offprint/sample"
	"offprint/trans"
)

var all = eval.New([]api.Node{{Op: api.All}})

func some(n int) *book.Book {
	b := book.New()
	for i := range n {
		b.Do(api.Edit{Kind: api.Create, Patch: api.Patch{Mask: 3 | api.LabelBit, Labels: uint32(i % 2), F: [8]api.Value{{Kind: api.Num, N: i}, {Kind: api.Num, N: 9}}}})
	}
	return b
}

func in(ids ...int) (l []api.Item) {
	for _, id := range ids {
		l = append(l, api.Item{Kind: api.In, Card: api.Card{ID: id, Ver: 1, F: [8]api.Value{{Kind: api.Num, N: id - 1}}}})
	}
	return l
}

// P27.1
func TestNext(t *testing.T) {
	b, odd := some(5), eval.New([]api.Node{{Op: api.Label, N: 0}})
	for _, x := range []struct {
		f            *eval.Filter
		cursor, room int
		want         []api.Item
		to           int
	}{
		{all, 0, 1, in(1), 1}, {all, 1, 1, in(2), 2}, {all, 0, 4, in(1, 2, 3, 4), 4}, {all, 0, 5, in(1, 2, 3, 4, 5), api.MaxID}, {all, 0, 99, in(1, 2, 3, 4, 5), api.MaxID}, {all, 4, 1, in(5), api.MaxID}, {all, 5, 1, nil, api.MaxID}, {all, api.MaxID, 3, nil, api.MaxID}, {all, math.MaxInt, 3, nil, api.MaxID},
		{all, -7, 2, in(1, 2), 2}, {all, math.MinInt, 2, in(1, 2), 2}, {all, 3, 0, nil, 3}, {all, 3, -5, nil, 3}, {all, -3, 0, nil, 0}, {all, api.MaxID, 0, nil, api.MaxID}, {all, 0, math.MaxInt, in(1, 2, 3, 4, 5), api.MaxID},
		{odd, 0, 1, in(2), 2}, {odd, 0, 2, in(2, 4), api.MaxID}, {odd, 2, 1, in(4), api.MaxID}, {odd, 3, 1, in(4), api.MaxID},
	} {
		got, to := fill.Next(b, x.f, 1, x.cursor, x.room)
		if !trans.Same(got, x.want) || to != x.to {
			t.Errorf("Next from %d, room for %d = %v, %d", x.cursor, x.room, got, to)
		}
	}
	if got, _ := fill.Next(b, all, api.LabelBit|2, 1, 1); got[0].Card != (api.Card{ID: 2, Ver: 1, Labels: 1, F: [8]api.Value{1: {Kind: api.Num, N: 9}}}) {
		t.Errorf("Next is not projected: %v", got)
	}
	for i, x := range []*book.Book{nil, b} {
		f := all
		if i == 1 {
			f = nil
		}
		if got, to := fill.Next(x, f, 1, 3, 1); got != nil || to != api.MaxID {
			t.Errorf("Next of nil ones = %v, %d", got, to)
		}
		if got, to := fill.Next(x, f, 1, 3, 0); got != nil || to != 3 {
			t.Errorf("Next of nil ones without room = %v, %d", got, to)
		}
	}
}

// P27.1
func TestMost(t *testing.T) {
	for _, x := range [][3]int{{0, 1, 1}, {0, 5, 1}, {4, 5, 1}, {5, 5, 2}, {9, 5, 2}, {10, 5, 3}, {7, 1, 8}, {api.MaxNum, api.MaxNum, 2}, {api.MaxNum, 1, api.MaxNum + 1}, {-1, 1, 0}, {api.MaxNum + 1, 1, 0}, {1, 0, 0}, {1, -1, 0}, {1, api.MaxNum + 1, 0}} {
		if got := fill.Most(x[0], x[1]); got != x[2] {
			t.Errorf("Most(%d, %d) = %d", x[0], x[1], got)
		}
	}
}

// P27.2, P27.3
func TestAgainAndAgain(t *testing.T) {
	s := sample.New(27)
	b := book.New()
	for range 800 {
		b.Do(s.Edit(b.Data().Next))
		f, m, room := eval.New(s.Fit()), s.Mask(), 1+s.Below(5)
		var have []api.Card
		cursor, pages := 0, 0
		for cursor != api.MaxID {
			items, to := fill.Next(b, f, m, cursor, room)
			got, ok := trans.Apply(have, items)
			if !ok || !card.Same(got, member.Ideal(b, f, m, to)) || len(items) > room || to <= cursor {
				t.Fatalf("Next from %d tells %v, %d", cursor, items, to)
			}
			have, cursor = got, to
			pages++
		}
		if n := len(member.IDs(b, f)); pages > fill.Most(n, room) || len(have) != n {
			t.Fatalf("%d pages of %d cards, %d each", pages, n, room)
		}
	}
}
