package queue_test

import (
	"testing"

	"offprint/api"
	"offprint/card"
	"offprint/queue"
	"offprint/sample"
)

func num(f, n int) api.Patch {
	p := api.Patch{Mask: 1 << f}
	p.F[f] = api.Value{Kind: api.Num, N: n}
	return p
}
func w(id, base int, p api.Patch) queue.Write { return queue.Write{ID: id, Base: base, Patch: p} }

// P44.1
func TestPush(t *testing.T) {
	five := api.Card{ID: 5, Ver: 4}
	l, err := queue.Push(nil, five, num(0, 1))
	if err != api.OK || !queue.Same(l, []queue.Write{w(5, 4, num(0, 1))}) {
		t.Errorf("Push = %v, %d", l, err)
	}
	l, _ = queue.Push(l, api.Card{ID: 2, Ver: 9}, num(1, 2))
	before := l[:1:1]
	l, err = queue.Push(l, five, num(2, 3))
	if err != api.OK || !queue.Same(l, []queue.Write{w(5, 4, num(0, 1)), w(2, 9, num(1, 2)), w(5, 5, num(2, 3))}) || len(before) != 1 {
		t.Errorf("Push = %v, %d", l, err)
	}
	five.Ver = 77
	if m, _ := queue.Push(l, five, num(2, 3)); m[3].Base != 6 {
		t.Errorf("the base behind others is %d", m[3].Base)
	}
	for _, x := range []struct {
		p    api.Patch
		want api.Errno
	}{{api.Patch{}, api.ErrMask}, {api.Patch{Mask: 512}, api.ErrMask}, {api.Patch{Mask: 1, Labels: 1}, api.ErrArg}} {
		if m, err := queue.Push(l, five, x.p); m != nil || err != x.want {
			t.Errorf("Push of a wrong patch = %v, %d", m, err)
		}
	}
	room := make([]queue.Write, 1, 5)
	room[0] = w(1, 1, num(0, 1))
	behind := room[:2]
	m, _ := queue.Push(room, five, num(0, 1))
	if m[0].ID = 99; behind[1].ID != 0 || room[0].ID != 1 {
		t.Errorf("Push touches what it was given")
	}
	for len(l) < api.MaxQueue {
		if l, err = queue.Push(l, five, num(0, 1)); err != api.OK {
			t.Fatalf("Push = %d", err)
		}
	}
	if m, err := queue.Push(l, five, num(0, 1)); m != nil || err != api.ErrFull {
		t.Errorf("Push of one too many = %v, %d", m, err)
	}
	if _, err := queue.Push(l, five, api.Patch{}); err != api.ErrMask {
		t.Errorf("Push of a wrong one too many = %d", err)
	}
}

// P44.1
func TestShowAndWaits(t *testing.T) {
	l := []queue.Write{w(5, 4, num(0, 1)), w(2, 9, num(1, 2)), w(5, 5, num(2, 3)), w(5, 6, num(0, 4))}
	c := api.Card{ID: 5, Ver: 4, Labels: 3, F: num(3, 9).F}
	want := c
	want.F[0], want.F[2] = num(0, 4).F[0], num(2, 3).F[2]
	if got := queue.Show(c, l); got != want {
		t.Errorf("Show = %v", got)
	}
	c.ID = 7
	if queue.Show(c, l) != c || queue.Show(c, nil) != c {
		t.Errorf("Show of a card without writes")
	}
	if queue.Waits(l, 5) != 3 || queue.Waits(l, 2) != 1 || queue.Waits(l, 7) != 0 || queue.Waits(nil, 5) != 0 {
		t.Errorf("Waits")
	}
	if queue.Same(l, l[:3]) || queue.Same(l[:3], l) || queue.Same(l[:1], l[1:2]) || !queue.Same(nil, []queue.Write{}) {
		t.Errorf("Same")
	}
	for i, x := range []queue.Write{w(5, 5, num(0, 1)), w(6, 4, num(0, 1)), w(5, 4, num(0, 2))} {
		if queue.Same(l[:1], []queue.Write{x}) {
			t.Errorf("Same does not see the change %d", i)
		}
	}
}

// P44.2
func TestDone(t *testing.T) {
	l := []queue.Write{w(5, 4, num(0, 1)), w(2, 9, num(1, 2)), w(5, 5, num(2, 3)), w(3, 1, num(0, 4))}
	left, dropped := queue.Done(l, true)
	if !queue.Same(left, l[1:]) || len(dropped) != 0 {
		t.Errorf("Done = %v, %v", left, dropped)
	}
	left[0].ID = 99
	left, dropped = queue.Done(l, false)
	if !queue.Same(left, []queue.Write{w(2, 9, num(1, 2)), w(3, 1, num(0, 4))}) || !queue.Same(dropped, []queue.Write{w(5, 4, num(0, 1)), w(5, 5, num(2, 3))}) {
		t.Errorf("Done, false = %v, %v", left, dropped)
	}
	for _, ok := range []bool{true, false} {
		if left, dropped := queue.Done(nil, ok); len(left)+len(dropped) != 0 {
			t.Errorf("Done of no writes = %v, %v", left, dropped)
		}
	}
	if left, dropped := queue.Done(l[:1], false); len(left) != 0 || !queue.Same(dropped, l[:1]) {
		t.Errorf("Done of one = %v, %v", left, dropped)
	}
}

// P44.3
func TestAnyQueue(t *testing.T) {
	s := sample.New(44)
	var l []queue.Write
	cards := map[int]api.Card{1: {ID: 1, Ver: 3}, 2: {ID: 2, Ver: 1}, 3: {ID: 3, Ver: 8}}
	for range 8000 {
		id := 1 + s.Below(3)
		if s.Below(2) == 0 {
			if m, err := queue.Push(l, cards[id], s.Patch()); err == api.OK {
				l = m
			}
			continue
		}
		if len(l) == 0 {
			continue
		}
		first := l[0]
		ok := s.Below(3) > 0
		left, dropped := queue.Done(l, ok)
		if ok {
			c := cards[first.ID]
			if first.Base != c.Ver {
				t.Fatalf("the first write of %v has the base %d", c, first.Base)
			}
			cards[first.ID] = card.Merge(c, first.Patch)
			dropped = l[:1]
		}
		n := map[int]int{}
		for _, x := range [][]queue.Write{left, dropped} {
			for _, y := range x {
				n[y.ID]++
			}
		}
		for id := 1; id < 4; id++ {
			if n[id] != queue.Waits(l, id) {
				t.Fatalf("of the card %d there are %d writes, and were %d", id, n[id], queue.Waits(l, id))
			}
		}
		for id, c := range cards {
			base := c.Ver
			for _, y := range left {
				if y.ID == id {
					if y.Base != base {
						t.Fatalf("a write of %v has the base %d, want %d", c, y.Base, base)
					}
					base++
				}
			}
		}
		l = left
	}
}
