package state_test

import (
	"slices"
	"testing"

	"offprint/api"
	"offprint/card"
	"offprint/state"
)

var label1 = []api.Node{{Op: api.Label, N: 1}}

func c(id int) api.Card {
	return api.Card{ID: id, Ver: 1, Labels: 2, F: [8]api.Value{{Kind: api.Num, N: id}}}
}

// some is a state that is not Wrong, in new memory.
func some() api.State {
	s := state.New()
	s.Book = api.Book{Seq: 9, Next: 4, Cards: []api.Card{c(1), {ID: 2, Ver: 1}, c(3)}, Groups: []api.Group{{No: 2, Members: []int{1}}}}
	s.Subs = []api.Sub{{Dev: 1, Epoch: 2, Filter: slices.Clone(label1), Mask: 1, Floor: 5, Members: []int{1, 3}, Log: []api.Turn{{Seq: 7, ID: 3, New: 1, Card: card.Project(c(3), 1)}}}, {Dev: 4, Epoch: 1, Filter: []api.Node{{Op: api.Member, N: 2}}, Mask: api.LabelBit, Floor: 9, Members: []int{1}}}
	s.Rows[1] = api.Row{Last: 3, Epoch: 2, Ans: api.Reply{Kind: api.DoSub, Dev: 1, Req: 3, Epoch: 2, Filter: slices.Clone(label1), Mask: 1, Seq: 5}}
	s.Rows[4].Epoch = 1
	s.Rows[0].Epoch = 7
	return s
}

// P31.1, P31.3
func TestNew(t *testing.T) {
	s := state.New()
	if state.Wrong(s) != 0 || s.Book.Seq != 0 || s.Book.Next != 1 || len(s.Book.Cards) != 0 || len(s.Subs) != 0 || len(s.Rows) != api.MaxDevs {
		t.Errorf("a new state is %v", s)
	}
	for dev := -1; dev < 8; dev++ {
		if len(state.Cards(s, dev)) != 0 {
			t.Errorf("a new state shows something")
		}
	}
}

// P31.1
func TestWrong(t *testing.T) {
	if got := state.Wrong(some()); got != 0 {
		t.Errorf("Wrong = %d", got)
	}
	if got := state.Wrong(api.State{}); got != 1 {
		t.Errorf("Wrong of a zero state = %d", got)
	}
	noRow := func(s *api.State) { s.Rows[5].Ans = api.Reply{Kind: api.DoLeave, Dev: 5, Req: 1} }
	for i, x := range []struct {
		change func(s *api.State)
		want   int
	}{
		{func(s *api.State) { s.Book.Next = 3 }, 1}, {func(s *api.State) { s.Book.Seq = -1 }, 1}, {func(s *api.State) { s.Book.Groups[0].Members[0] = 9 }, 1},
		{func(s *api.State) { s.Subs[0].Dev = 4 }, 2}, {func(s *api.State) { s.Subs[0].Members = nil }, 2}, {func(s *api.State) { s.Subs[0].Log[0].Seq = 10 }, 2}, {func(s *api.State) { s.Book.Cards[0].Labels = 0 }, 2}, {func(s *api.State) { s.Subs[1].Floor = 10 }, 2}, {func(s *api.State) { s.Subs[0].Epoch = 0 }, 2},
		{noRow, 3}, {func(s *api.State) { s.Rows = s.Rows[:5] }, 3}, {func(s *api.State) { s.Rows[1].Last = 4 }, 3}, {func(s *api.State) { s.Rows = nil }, 3},
		{func(s *api.State) { s.Rows[4].Epoch = 2 }, 4}, {func(s *api.State) { s.Subs[0].Epoch = 1 }, 4}, {func(s *api.State) { s.Subs[0].Epoch = 3 }, 4},
		{func(s *api.State) { s.Book.Next, s.Subs[0].Dev, s.Rows = 1, 9, nil }, 1}, {func(s *api.State) { s.Subs[0].Dev, s.Rows = 9, nil }, 2}, {func(s *api.State) { s.Subs[0].Epoch = 1; noRow(s) }, 3},
	} {
		s := some()
		x.change(&s)
		if got := state.Wrong(s); got != x.want {
			t.Errorf("Wrong %d = %d, want %d", i, got, x.want)
		}
		if state.Same(s, some()) || state.Same(some(), s) {
			t.Errorf("Same does not see the change %d", i)
		}
	}
	s := state.New()
	if noRow(&s); state.Wrong(s) != 3 {
		t.Errorf("Wrong of the example = %d", state.Wrong(s))
	}
}

// P31.1
func TestSame(t *testing.T) {
	if !state.Same(some(), some()) || !state.Same(api.State{}, api.State{}) {
		t.Errorf("Same of like ones")
	}
	for i, change := range []func(s *api.State){
		func(s *api.State) { s.Rows[0].Epoch++ }, func(s *api.State) { s.Rows[1].Ans.Mask = 2 }, func(s *api.State) { s.Rows[1].Ans.Filter[0].N++ }, func(s *api.State) { s.Rows[1].Last++ }, func(s *api.State) { s.Subs = s.Subs[:1] }, func(s *api.State) { s.Book.Seq++ }, func(s *api.State) { s.Rows = s.Rows[:5] }, func(s *api.State) { s.Subs[0].Floor++ },
	} {
		s := some()
		if change(&s); state.Same(s, some()) || state.Same(some(), s) {
			t.Errorf("Same does not see the change %d", i)
		}
	}
}

// P31.2
func TestCards(t *testing.T) {
	s := some()
	if got := state.Cards(s, 1); !card.Same(got, []api.Card{card.Project(c(1), 1), card.Project(c(3), 1)}) {
		t.Errorf("Cards = %v", got)
	}
	if got := state.Cards(s, 4); !card.Same(got, []api.Card{card.Project(c(1), api.LabelBit)}) {
		t.Errorf("Cards of a member = %v", got)
	}
	for _, dev := range []int{0, 2, 5, -1, 99} {
		if got := state.Cards(s, dev); len(got) != 0 {
			t.Errorf("Cards of %d = %v", dev, got)
		}
	}
}
