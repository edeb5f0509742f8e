package shelf_test

import (
	"math"
	"slices"
	"testing"

	"offprint/api"
	"offprint/card"
	"offprint/sample"
	"offprint/shelf"
)

func num(n int) api.Value { return api.Value{Kind: api.Num, N: n} }

var (
	one   = api.Patch{Mask: 1 | api.LabelBit, Labels: 3, F: [8]api.Value{num(7)}}
	two   = api.Patch{Mask: 2, F: [8]api.Value{1: num(8)}}
	wrong = api.Patch{Mask: 1, Labels: 1}
)

// P18.1
func TestAddAndWrite(t *testing.T) {
	s := shelf.New()
	if s.Next() != 1 || len(s.Cards()) != 0 || len(s.Dead()) != 0 {
		t.Errorf("a new shelf has something")
	}
	if c, err := s.Add(api.Patch{}); err != api.ErrMask || c != (api.Card{}) {
		t.Errorf("Add of no patch = %v, %d", c, err)
	}
	if c, err := s.Add(wrong); err != api.ErrArg || c != (api.Card{}) || s.Next() != 1 {
		t.Errorf("Add of a wrong patch = %v, %d", c, err)
	}
	c, err := s.Add(one)
	if err != api.OK || c != (api.Card{ID: 1, Ver: 1, Labels: 3, F: [8]api.Value{num(7)}}) || s.Next() != 2 {
		t.Errorf("Add = %v, %d", c, err)
	}
	s.Add(two)
	c, err = s.Write(1, two)
	if want := (api.Card{ID: 1, Ver: 2, Labels: 3, F: [8]api.Value{num(7), num(8)}}); err != api.OK || c != want || s.Cards()[0] != want {
		t.Errorf("Write = %v, %d", c, err)
	}
	for _, x := range []struct {
		id   int
		p    api.Patch
		want api.Errno
	}{{9, api.Patch{}, api.ErrMask}, {9, wrong, api.ErrArg}, {9, one, api.ErrNone}, {0, one, api.ErrNone}, {-1, one, api.ErrNone}, {3, one, api.ErrNone}} {
		if c, err := s.Write(x.id, x.p); err != x.want || c != (api.Card{}) {
			t.Errorf("Write of %d = %v, %d", x.id, c, err)
		}
	}
	s.Drop(2, 1)
	if _, err := s.Write(2, one); err != api.ErrGone {
		t.Errorf("Write of what was deleted = %d", err)
	}
	s, _ = shelf.Load(5, []api.Card{{ID: 1, Ver: api.MaxNum}, {ID: 2, Ver: api.MaxNum - 1}}, nil)
	if c, err := s.Write(1, one); err != api.ErrFull || c != (api.Card{}) || s.Cards()[0].Labels != 0 {
		t.Errorf("Write above MaxNum = %v, %d", c, err)
	}
	if c, err := s.Write(2, one); err != api.OK || c.Ver != api.MaxNum {
		t.Errorf("Write up to MaxNum = %v, %d", c, err)
	}
}

// P18.1
func TestFull(t *testing.T) {
	s := shelf.New()
	for range api.MaxCards {
		if _, err := s.Add(one); err != api.OK {
			t.Fatalf("Add = %d", err)
		}
	}
	if _, err := s.Add(one); err != api.ErrFull {
		t.Errorf("Add of one too many = %d", err)
	}
	if _, err := s.Add(wrong); err != api.ErrArg {
		t.Errorf("Add of a wrong one = %d", err)
	}
	s.Drop(5, 1)
	if c, err := s.Add(one); err != api.OK || c.ID != api.MaxCards+1 {
		t.Errorf("Add into the place of one = %v, %d", c, err)
	}
	s, _ = shelf.Load(api.MaxID-1, nil, nil)
	if c, err := s.Add(one); err != api.OK || c.ID != api.MaxID-1 || s.Next() != api.MaxID {
		t.Errorf("Add of the last number = %v, %d", c, err)
	}
	if c, err := s.Add(one); err != api.ErrFull || c != (api.Card{}) {
		t.Errorf("Add behind the last number = %v, %d", c, err)
	}
}

// P18.1, P18.2
func TestDrop(t *testing.T) {
	s := shelf.New()
	for range 4 {
		s.Add(one)
	}
	s.Write(2, two)
	for _, x := range []struct {
		id, seq int
		want    api.Errno
	}{{9, 1, api.ErrNone}, {9, -1, api.ErrNone}, {1, -1, api.ErrArg}, {1, api.MaxNum + 1, api.ErrArg}, {2, 7, api.OK}, {2, 7, api.ErrGone}, {2, 1, api.ErrGone}, {1, 6, api.ErrArg}, {1, 7, api.OK}, {3, api.MaxNum, api.OK}} {
		if err := s.Drop(x.id, x.seq); err != x.want {
			t.Errorf("Drop(%d, %d) = %d", x.id, x.seq, err)
		}
	}
	dead := []api.Dead{{ID: 2, Ver: 2, Seq: 7}, {ID: 1, Ver: 1, Seq: 7}, {ID: 3, Ver: 1, Seq: api.MaxNum}}
	if got := s.Dead(); !slices.Equal(got, dead) {
		t.Errorf("Dead = %v", got)
	}
	s.Dead()[0].ID = 99
	s.Cards()[0].ID = 99
	if _, err := s.Get(2); err != api.ErrGone {
		t.Errorf("Get of what was deleted = %d", err)
	}
	if c, err := s.Get(4); err != api.OK || c.ID != 4 || len(s.Cards()) != 1 || s.Next() != 5 {
		t.Errorf("Get = %v, %d", c, err)
	}
	for _, id := range []int{0, -1, 5, math.MaxInt} {
		if c, err := s.Get(id); err != api.ErrNone || c != (api.Card{}) {
			t.Errorf("Get(%d) = %v, %d", id, c, err)
		}
	}
	s.Trim(6)
	if !slices.Equal(s.Dead(), dead) {
		t.Errorf("Trim below = %v", s.Dead())
	}
	s.Trim(7)
	if _, err := s.Get(2); !slices.Equal(s.Dead(), dead[2:]) || err != api.ErrNone {
		t.Errorf("Trim = %v, %d", s.Dead(), err)
	}
	s.Trim(math.MaxInt)
	if len(s.Dead()) != 0 {
		t.Errorf("Trim of all = %v", s.Dead())
	}
}

// P18.1
func TestTheFirstDeadIsForgotten(t *testing.T) {
	s := shelf.New()
	for i := 1; i <= api.MaxDead+2; i++ {
		s.Add(one)
		s.Drop(i, i)
		if n := len(s.Dead()); n != min(i, api.MaxDead) {
			t.Fatalf("%d are known of %d", n, i)
		}
	}
	if d := s.Dead(); d[0].ID != 3 || d[api.MaxDead-1].ID != api.MaxDead+2 {
		t.Errorf("Dead = %v", d)
	}
	if _, err := s.Get(2); err != api.ErrNone {
		t.Errorf("Get of one that was forgotten = %d", err)
	}
	if _, err := s.Get(3); err != api.ErrGone {
		t.Errorf("Get of one that is known = %d", err)
	}
}

// P18.2
func TestLoad(t *testing.T) {
	c := func(id int) api.Card { return api.Card{ID: id, Ver: 1} }
	d := func(id, seq int) api.Dead { return api.Dead{ID: id, Ver: 1, Seq: seq} }
	many := func(n int) (l []api.Card) {
		for i := range n {
			l = append(l, c(i+1))
		}
		return l
	}
	gone := func(n int) (l []api.Dead) {
		for i := range n {
			l = append(l, d(i+100, 5))
		}
		return l
	}
	for i, x := range []struct {
		next  int
		cards []api.Card
		dead  []api.Dead
		ok    bool
	}{
		{1, nil, nil, true}, {api.MaxID, nil, nil, true}, {0, nil, nil, false}, {-1, nil, nil, false}, {api.MaxID + 1, nil, nil, false},
		{200, many(48), gone(40), true}, {200, many(49), nil, false}, {200, nil, gone(41), false},
		{3, []api.Card{c(2)}, nil, true}, {2, []api.Card{c(2)}, nil, false}, {9, []api.Card{c(2), c(1)}, nil, false}, {9, []api.Card{c(2), c(2)}, nil, false}, {9, []api.Card{c(0)}, nil, false}, {9, []api.Card{{ID: 1}}, nil, false}, {9, []api.Card{{ID: 1, Ver: 1, Labels: 1 << 16}}, nil, false},
		{9, nil, []api.Dead{d(8, 0), d(1, 0), d(2, api.MaxNum)}, true}, {9, nil, []api.Dead{d(9, 1)}, false}, {9, nil, []api.Dead{d(0, 1)}, false}, {9, nil, []api.Dead{d(-1, 1)}, false}, {9, nil, []api.Dead{d(1, 1), d(1, 2)}, false}, {9, []api.Card{c(1)}, []api.Dead{d(1, 1)}, false},
		{9, nil, []api.Dead{d(1, 2), d(2, 1)}, false}, {9, nil, []api.Dead{d(1, -1)}, false}, {9, nil, []api.Dead{d(1, api.MaxNum+1)}, false}, {9, nil, []api.Dead{{ID: 1, Seq: 1}}, false}, {9, nil, []api.Dead{{ID: 1, Ver: api.MaxNum + 1}}, false}, {9, nil, []api.Dead{{ID: 1, Ver: api.MaxNum}}, true},
	} {
		s, ok := shelf.Load(x.next, x.cards, x.dead)
		if ok != x.ok || (s != nil) != ok {
			t.Errorf("Load %d is %v", i, ok)
		} else if ok && (s.Next() != x.next || !card.Same(s.Cards(), x.cards) || !slices.Equal(s.Dead(), x.dead)) {
			t.Errorf("Load %d has other things", i)
		}
	}
	cards, dead := []api.Card{c(1)}, []api.Dead{d(2, 5)}
	s, _ := shelf.Load(9, cards, dead)
	cards[0].ID, dead[0].ID = 7, 7
	if s.Cards()[0].ID != 1 || s.Dead()[0].ID != 2 || s.Drop(1, 4) != api.ErrArg || s.Drop(1, 5) != api.OK {
		t.Errorf("a loaded shelf")
	}
}

// P18.2
func TestNilShelf(t *testing.T) {
	for _, s := range []*shelf.Shelf{nil} {
		s.Trim(3)
		_, a := s.Add(one)
		_, w := s.Write(1, one)
		_, g := s.Get(1)
		if a != api.ErrState || w != api.ErrState || g != api.ErrState || s.Drop(1, 1) != api.ErrState || s.Next() != 0 || s.Cards() != nil || s.Dead() != nil {
			t.Errorf("a nil shelf")
		}
	}
}

// P18.3
func TestOthersStay(t *testing.T) {
	r := sample.New(18)
	s := shelf.New()
	given := map[int]bool{}
	for seq := range 3000 {
		before := s.Cards()
		id, p := 1+r.Below(s.Next()), r.Patch()
		var touched int
		switch r.Below(3) {
		case 0:
			if c, err := s.Add(p); err == api.OK {
				if given[c.ID] || c != card.Fresh(c.ID, p) {
					t.Fatalf("the number %d is given twice, or the card is %v", c.ID, c)
				}
				given[c.ID], touched = true, c.ID
			}
		case 1:
			old, _ := s.Get(id)
			if c, err := s.Write(id, p); err == api.OK {
				touched = id
				if c.Ver != old.Ver+1 || card.Project(c, api.AllMask&^p.Mask).F != card.Project(old, api.AllMask&^p.Mask).F || card.Of(c, p.Mask) != p {
					t.Fatalf("%v is written to %v: %v", p, old, c)
				}
			}
		case 2:
			if s.Drop(id, seq) == api.OK {
				touched = id
			}
		}
		drop := func(l []api.Card) []api.Card {
			return slices.DeleteFunc(l, func(c api.Card) bool { return c.ID == touched })
		}
		if !card.Same(drop(before), drop(s.Cards())) {
			t.Fatalf("another card than %d was changed", touched)
		}
	}
}
