package delta_test

import (
	"math"
	"slices"
	"testing"

	"offprint/api"
	"offprint/card"
	"offprint/delta"
	"offprint/sample"
	"offprint/trans"
)

func c(id, ver int) api.Card { return api.Card{ID: id, Ver: ver} }
func turn(seq, id, old, new int) api.Turn {
	t := api.Turn{Seq: seq, ID: id, Old: old, New: new}
	if new > 0 {
		t.Card = c(id, new)
	}
	return t
}
func in(id, ver int) api.Item { return api.Item{Kind: api.In, Card: c(id, ver)} }
func up(id, ver int) api.Item { return api.Item{Kind: api.Up, Card: c(id, ver)} }
func out(id int) api.Item     { return api.Item{Kind: api.Out, Card: api.Card{ID: id}} }

// P24.1
func TestCut(t *testing.T) {
	two := []api.Turn{turn(3, 1, 0, 1), turn(5, 2, 0, 1)}
	gone := []api.Turn{turn(3, 1, 0, 1), turn(5, 2, 0, 1), turn(6, 3, 4, 5), turn(8, 2, 1, 0), turn(9, 3, 5, 4)}
	for i, x := range []struct {
		l                       []api.Turn
		from, now, cursor, page int
		want                    []api.Item
		to                      int
	}{
		{two, 2, 9, api.MaxID, 1, []api.Item{in(1, 1)}, 4}, {two, 4, 9, api.MaxID, 1, []api.Item{in(2, 1)}, 9}, {two, 2, 9, api.MaxID, 2, []api.Item{in(1, 1), in(2, 1)}, 9}, {two, 2, 9, api.MaxID, 0, nil, 2}, {two, 0, 9, api.MaxID, -5, nil, 2}, {two, 0, 9, api.MaxID, math.MinInt, nil, 2},
		{two, 3, 9, api.MaxID, 0, nil, 4}, {two, 5, 9, api.MaxID, 0, nil, 9}, {two, 2, 4, api.MaxID, 1, []api.Item{in(1, 1)}, 4}, {two, 2, 3, api.MaxID, 1, []api.Item{in(1, 1)}, 3}, {two, 2, 5, api.MaxID, 1, []api.Item{in(1, 1)}, 4}, {two, 9, 9, api.MaxID, 3, nil, 9},
		{two, 0, 9, 1, 1, []api.Item{in(1, 1)}, 9}, {two, 0, 9, 0, 0, nil, 9}, {nil, 4, 9, api.MaxID, 0, nil, 9}, {nil, 9, 9, 5, 1, nil, 9},
		{gone, 0, 20, api.MaxID, 1, []api.Item{in(1, 1)}, 20}, {gone, 0, 8, api.MaxID, 1, []api.Item{in(1, 1)}, 4}, {gone, 0, 8, api.MaxID, 2, []api.Item{in(1, 1), up(3, 5)}, 8}, {gone, 5, 9, api.MaxID, 1, []api.Item{out(2)}, 9}, {gone, 5, 8, api.MaxID, 1, []api.Item{up(3, 5)}, 7}, {gone, 4, 20, api.MaxID, 0, nil, 20}, {gone, 0, 20, api.MaxID, 0, nil, 2},
	} {
		got, to := delta.Cut(x.l, x.from, x.now, x.cursor, x.page)
		if !trans.Same(got, x.want) || to != x.to {
			t.Errorf("Cut %d = %v, %d; want %v, %d", i, got, to, x.want, x.to)
		}
	}
}

// P24.1
func TestSteps(t *testing.T) {
	l := []api.Turn{turn(3, 1, 0, 1), turn(5, 9, 0, 1), turn(6, 1, 1, 0), turn(8, 1, 0, 1)}
	for _, x := range [][5]int{{0, 9, api.MaxID, 4}, {3, 9, api.MaxID, 3}, {2, 6, api.MaxID, 3}, {0, 5, 9, 2}, {0, 5, 8, 1}, {0, 9, 0, 0}, {8, 9, 9, 0}, {7, 8, 1, 1}, {9, 0, 9, 0}} {
		if got := delta.Steps(l, x[0], x[1], x[2]); got != x[3] {
			t.Errorf("Steps(%v) = %d", x, got)
		}
	}
	if delta.Steps(nil, 0, 9, 9) != 0 {
		t.Errorf("Steps of none")
	}
}

// turns are turns that go on, up to a step, and cards ahead of them that fit.
func turns(s *sample.Source, n int) ([]api.Card, []api.Turn, int) {
	var cards []api.Card
	vers, next := map[int]int{}, map[int]int{}
	for id := 1; id < 7; id++ {
		if next[id] = 1; s.Below(2) == 0 {
			cards = append(cards, c(id, 1))
			vers[id] = 1
		}
	}
	var l []api.Turn
	seq := 0
	for range n {
		seq += 1 + s.Below(3)
		id, now := 1+s.Below(6), 0
		if vers[id] == 0 || s.Below(2) == 0 {
			next[id] += s.Below(2)
			now = next[id]
		}
		if now != vers[id] {
			l = append(l, turn(seq, id, vers[id], now))
			vers[id] = now
		}
	}
	return cards, l, seq + s.Below(3)
}

// P24.1, P24.2, P24.3
func TestAnyTurns(t *testing.T) {
	s := sample.New(24)
	for range 4000 {
		cards, l, now := turns(s, s.Below(16))
		before := slices.Clone(l)
		page, cursor := s.Below(4), 6-s.Below(3)
		from, cuts := 0, 0
		net := func(to int) []api.Item {
			var part []api.Turn
			for _, x := range l {
				if x.Seq > from && x.Seq <= to && x.ID <= cursor {
					part = append(part, x)
				}
			}
			return trans.Net(part)
		}
		whole, ok := trans.Apply(cards, net(now))
		if !ok {
			t.Fatalf("the turns do not fit")
		}
		most := 0
		if page > 0 {
			most = delta.Steps(l, 0, now, cursor)/page + 1
		}
		for {
			items, to := delta.Cut(l, from, now, cursor, page)
			want := now
			for len(net(want)) > page {
				want--
			}
			if to != want || !trans.Same(items, net(to)) || len(items) > page || to < now && len(net(to+1)) <= page {
				t.Fatalf("Cut of %v from %d to %d, page %d = %v, %d; want %d", l, from, now, page, items, to, want)
			}
			if cards, ok = trans.Apply(cards, items); !ok {
				t.Fatalf("a cut does not fit")
			}
			cuts++
			if from = to; page == 0 || to == now {
				break
			}
		}
		if page > 0 && (cuts > most || !card.Same(cards, whole)) {
			t.Fatalf("%d cuts of %d at most come to %v, want %v", cuts, most, cards, whole)
		}
		if !slices.Equal(before, l) {
			t.Fatalf("Cut changed what it was given")
		}
	}
}
