package trans_test

import (
	"math"
	"slices"
	"testing"

	"offprint/api"
	"offprint/card"
	"offprint/sample"
	"offprint/trans"
)

func c(id, ver int) api.Card { return api.Card{ID: id, Ver: ver, Labels: uint32(ver)} }
func turn(seq, id, old, new int) api.Turn {
	t := api.Turn{Seq: seq, ID: id, Old: old, New: new}
	if new > 0 {
		t.Card = c(id, new)
	}
	return t
}
func in(id, ver int) api.Item { return api.Item{Kind: api.In, Card: c(id, ver)} }
func up(id, ver int) api.Item { return api.Item{Kind: api.Up, Card: c(id, ver)} }
func out(id int) api.Item     { return api.Item{Kind: api.Out, Card: api.Card{ID: id}} }

// P23.1
func TestOf(t *testing.T) {
	for _, x := range []struct {
		seq, old, id int
		c            api.Card
		is           bool
		want         api.Turn
		ok           bool
	}{
		{5, 0, 3, c(3, 1), true, turn(5, 3, 0, 1), true}, {5, 1, 3, c(3, 2), true, turn(5, 3, 1, 2), true}, {6, 2, 3, c(3, 9), false, turn(6, 3, 2, 0), true}, {6, 2, 3, api.Card{}, false, turn(6, 3, 2, 0), true},
		{5, 2, 3, c(3, 2), true, api.Turn{}, false}, {5, 0, 3, c(3, 2), false, api.Turn{}, false}, {5, 0, 3, api.Card{}, false, api.Turn{}, false}, {5, 9, 3, c(3, 2), true, turn(5, 3, 9, 2), true},
	} {
		if got, ok := trans.Of(x.seq, x.old, x.id, x.c, x.is); got != x.want || ok != x.ok {
			t.Errorf("Of(%d, %d, %d, %v, %v) = %v, %v", x.seq, x.old, x.id, x.c, x.is, got, ok)
		}
	}
}

// P23.1
func TestCheck(t *testing.T) {
	for _, l := range [][]api.Turn{nil, {turn(1, 1, 0, 1)}, {turn(api.MaxNum, api.MaxID-1, api.MaxNum, 0)}, {turn(1, 1, 5, api.MaxNum)}, {turn(1, 1, 0, 1), turn(2, 2, 3, 0), turn(5, 1, 1, 4), turn(6, 1, 4, 0), turn(7, 1, 0, 4)}} {
		if !trans.Check(l) {
			t.Errorf("Check(%v) is false", l)
		}
	}
	bad := func(change func(t *api.Turn)) api.Turn {
		t := turn(5, 3, 1, 2)
		change(&t)
		return t
	}
	for _, l := range [][]api.Turn{
		{turn(0, 1, 0, 1)}, {turn(-1, 1, 0, 1)}, {turn(api.MaxNum+1, 1, 0, 1)}, {turn(1, 0, 2, 0)}, {turn(1, -1, 2, 0)}, {turn(1, api.MaxID, 2, 0)}, {turn(1, 1, 0, 0)}, {turn(1, 1, 3, 3)}, {turn(1, 1, -1, 3)}, {turn(1, 1, api.MaxNum+1, 3)}, {turn(1, 1, 3, -1)}, {turn(1, 1, 1, api.MaxNum+1)},
		{bad(func(t *api.Turn) { t.Card.ID = 4 })}, {bad(func(t *api.Turn) { t.Card.Ver = 3 })}, {bad(func(t *api.Turn) { t.Card.Labels = 1 << 16 })}, {bad(func(t *api.Turn) { t.Card = api.Card{} })}, {bad(func(t *api.Turn) { t.New = 0 })}, {bad(func(t *api.Turn) { t.Card.F[0].N = 1 })},
		{turn(2, 1, 0, 1), turn(2, 2, 0, 1)}, {turn(2, 1, 0, 1), turn(1, 2, 0, 1)}, {turn(1, 1, 0, 1), turn(2, 1, 0, 2)}, {turn(1, 1, 0, 1), turn(2, 2, 0, 1), turn(3, 1, 2, 3)}, {turn(1, 1, 2, 0), turn(3, 1, 2, 3)},
	} {
		if trans.Check(l) {
			t.Errorf("Check(%v) is true", l)
		}
	}
}

// P23.1
func TestNet(t *testing.T) {
	for i, x := range []struct {
		l    []api.Turn
		want []api.Item
	}{
		{nil, nil}, {[]api.Turn{turn(3, 1, 0, 1), turn(4, 1, 1, 0)}, nil}, {[]api.Turn{turn(3, 1, 2, 0), turn(4, 1, 0, 2)}, nil},
		{[]api.Turn{turn(3, 1, 0, 1), turn(4, 1, 1, 2)}, []api.Item{in(1, 2)}}, {[]api.Turn{turn(3, 1, 2, 3), turn(4, 1, 3, 0)}, []api.Item{out(1)}}, {[]api.Turn{turn(3, 1, 2, 0), turn(4, 1, 0, 3)}, []api.Item{up(1, 3)}},
		{[]api.Turn{turn(1, 9, 0, 1), turn(2, 2, 4, 5), turn(3, 5, 1, 0), turn(4, 9, 1, 2)}, []api.Item{up(2, 5), out(5), in(9, 2)}},
	} {
		if got := trans.Net(x.l); !trans.Same(got, x.want) {
			t.Errorf("Net %d = %v", i, got)
		}
	}
}

// P23.2
func TestCheckItems(t *testing.T) {
	for _, l := range [][]api.Item{nil, {in(1, 1)}, {out(1), up(2, 9), in(api.MaxID-1, 1)}, {out(api.MaxID - 1)}} {
		if !trans.CheckItems(l) {
			t.Errorf("CheckItems(%v) is false", l)
		}
	}
	for _, l := range [][]api.Item{
		{{}}, {{Kind: 4, Card: c(1, 1)}}, {{Kind: -1, Card: c(1, 1)}}, {{Kind: 0, Card: c(1, 1)}}, {out(0)}, {out(-1)}, {out(api.MaxID)}, {in(0, 1)}, {in(1, 0)}, {up(1, 0)}, {up(api.MaxID, 1)}, {{Kind: api.Out, Card: c(1, 1)}}, {{Kind: api.Out, Card: api.Card{ID: 1, Labels: 1}}}, {{Kind: api.Out, Card: api.Card{ID: 1, F: [8]api.Value{{N: 1}}}}},
		{in(2, 1), in(1, 1)}, {in(1, 1), out(1)}, {in(1, 1), in(2, 1), up(2, 1)}, {{Kind: api.In, Card: api.Card{ID: 1, Ver: 1, Labels: 1 << 16}}}, {{Kind: math.MaxInt, Card: c(1, 1)}},
	} {
		if trans.CheckItems(l) {
			t.Errorf("CheckItems(%v) is true", l)
		}
	}
}

// P23.2
func TestApply(t *testing.T) {
	cards := []api.Card{c(2, 1), c(5, 1)}
	for _, x := range []struct {
		l    []api.Item
		want []api.Card
		ok   bool
	}{
		{nil, cards, true}, {[]api.Item{in(1, 1), in(3, 1), in(9, 2)}, []api.Card{c(1, 1), c(2, 1), c(3, 1), c(5, 1), c(9, 2)}, true}, {[]api.Item{out(2)}, cards[1:], true}, {[]api.Item{up(2, 7), out(5)}, []api.Card{c(2, 7)}, true}, {[]api.Item{out(2), out(5)}, nil, true},
		{[]api.Item{in(2, 1)}, nil, false}, {[]api.Item{out(3)}, nil, false}, {[]api.Item{up(3, 1)}, nil, false}, {[]api.Item{in(1, 1), up(2, 2), out(4)}, nil, false},
	} {
		got, ok := trans.Apply(cards, x.l)
		if ok != x.ok || !card.Same(got, x.want) || !ok && got != nil {
			t.Errorf("Apply of %v = %v, %v", x.l, got, ok)
		}
		for i := range got {
			got[i].ID = 77
		}
	}
	if !card.Same(cards, []api.Card{c(2, 1), c(5, 1)}) {
		t.Errorf("Apply changed what it was given")
	}
	if got, ok := trans.Apply(nil, []api.Item{in(1, 1)}); !ok || !card.Same(got, []api.Card{c(1, 1)}) {
		t.Errorf("Apply to none = %v, %v", got, ok)
	}
	for _, l := range [][]api.Item{nil, {in(1, 1)}, {in(1, 1), out(3)}, {in(1, 1), up(2, 2)}, {in(1, 2), out(2)}, {in(1, 1), out(2), out(3)}} {
		if a := []api.Item{in(1, 1), out(2)}; trans.Same(a, l) || trans.Same(l, a) || !trans.Same(l, slices.Clone(l)) {
			t.Errorf("Same of %v", l)
		}
	}
}

// turns are turns that go on, and cards ahead of them that fit.
func turns(s *sample.Source, n int) ([]api.Card, []api.Turn) {
	var cards []api.Card
	vers, next := map[int]int{}, map[int]int{}
	for id := 1; id < 7; id++ {
		if s.Below(2) == 0 {
			cards = append(cards, c(id, 1))
			vers[id] = 1
		}
		next[id] = 1
	}
	var l []api.Turn
	seq := 0
	for range n {
		seq += 1 + s.Below(3)
		id, now := 1+s.Below(6), 0
		if vers[id] == 0 || s.Below(2) == 0 {
			if s.Below(3) > 0 {
				next[id]++
			}
			now = next[id]
		}
		if now != vers[id] {
			l = append(l, turn(seq, id, vers[id], now))
			vers[id] = now
		}
	}
	return cards, l
}

// P23.3, P23.4
func TestNetsPutTogether(t *testing.T) {
	s := sample.New(23)
	for range 3000 {
		cards, l := turns(s, s.Below(14))
		if !trans.Check(l) {
			t.Fatalf("%v do not go on", l)
		}
		net := trans.Net(l)
		numbers := map[int]int{}
		for _, x := range l {
			numbers[x.ID]++
		}
		if !trans.CheckItems(net) || len(net) > len(numbers) {
			t.Fatalf("the net %v of %v", net, l)
		}
		want := map[int]int{}
		for _, x := range cards {
			want[x.ID] = x.Ver
		}
		for _, x := range l {
			want[x.ID] = x.New
		}
		whole, ok := trans.Apply(cards, net)
		if !ok {
			t.Fatalf("the net %v does not fit", net)
		}
		for _, x := range whole {
			if want[x.ID] != x.Ver {
				t.Fatalf("the cards behind %v are %v", l, whole)
			}
			delete(want, x.ID)
		}
		for id, ver := range want {
			if ver != 0 {
				t.Fatalf("the card %d lacks behind %v", id, l)
			}
		}
		at := s.Below(len(l) + 1)
		first, ok := trans.Apply(cards, trans.Net(l[:at]))
		second, ok2 := trans.Apply(first, trans.Net(l[at:]))
		if !ok || !ok2 || !card.Same(second, whole) {
			t.Fatalf("two nets of %v come to %v", l, second)
		}
	}
}
