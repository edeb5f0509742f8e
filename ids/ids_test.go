package ids_test

import (
	"math"
	"slices"
	"testing"

	"offprint/api"
	"offprint/ids"
	"offprint/sample"
)

// P7.1
func TestCheck(t *testing.T) {
	for _, l := range [][]int{nil, {}, {1}, {1, 2, 9}, {api.MaxID - 1}, {1, api.MaxID - 1}} {
		if !ids.Check(l) {
			t.Errorf("Check(%v) is false", l)
		}
	}
	for _, l := range [][]int{{0}, {-1}, {0, 1}, {api.MaxID}, {1, api.MaxID}, {2, 1}, {1, 1}, {1, 3, 2}, {1, 3, 3}, {math.MinInt}, {1, math.MaxInt}} {
		if ids.Check(l) {
			t.Errorf("Check(%v) is true", l)
		}
	}
}

// P7.1
func TestOneList(t *testing.T) {
	l := []int{1, 3, 5, api.MaxID - 1}
	for _, c := range []struct {
		id, place        int
		has              bool
		after, drop, put []int
	}{
		{math.MinInt, 0, false, l, l, l}, {0, 0, false, l, l, l}, {1, 0, true, l[1:], l[1:], l},
		{2, 1, false, l[1:], l, []int{1, 2, 3, 5, api.MaxID - 1}}, {3, 1, true, l[2:], []int{1, 5, api.MaxID - 1}, l},
		{6, 3, false, l[3:], l, []int{1, 3, 5, 6, api.MaxID - 1}}, {api.MaxID - 1, 3, true, nil, l[:3], l},
		{api.MaxID, 4, false, nil, l, l}, {math.MaxInt, 4, false, nil, l, l},
	} {
		if ids.Place(l, c.id) != c.place || ids.Has(l, c.id) != c.has {
			t.Errorf("Place and Has of %d", c.id)
		}
		if got := ids.After(l, c.id); !slices.Equal(got, c.after) {
			t.Errorf("After(%d) = %v", c.id, got)
		}
		if got := ids.Drop(l, c.id); !slices.Equal(got, c.drop) {
			t.Errorf("Drop(%d) = %v", c.id, got)
		}
		if got := ids.Put(l, c.id); !slices.Equal(got, c.put) {
			t.Errorf("Put(%d) = %v", c.id, got)
		}
	}
	if ids.Place(nil, 3) != 0 || ids.Has(nil, 3) || len(ids.After(nil, 3)) != 0 || len(ids.Drop(nil, 3)) != 0 || !slices.Equal(ids.Put(nil, 3), []int{3}) || len(ids.Put(nil, 0)) != 0 {
		t.Errorf("an empty list")
	}
}

// list is a list that rises.
func list(s *sample.Source) []int {
	var l []int
	for id := 1; id < 14; id++ {
		if s.Below(2) == 0 {
			l = append(l, id)
		}
	}
	return l
}

// P7.2, P7.3
func TestTwoLists(t *testing.T) {
	s := sample.New(7)
	for range 500 {
		a, b := list(s), list(s)
		var both, minus, either []int
		for id := 1; id < 14; id++ {
			x, y := slices.Contains(a, id), slices.Contains(b, id)
			if x && y {
				both = append(both, id)
			}
			if x && !y {
				minus = append(minus, id)
			}
			if x || y {
				either = append(either, id)
			}
		}
		if got := ids.Both(a, b); !slices.Equal(got, both) {
			t.Fatalf("Both(%v, %v) = %v", a, b, got)
		}
		if got := ids.Minus(a, b); !slices.Equal(got, minus) {
			t.Fatalf("Minus(%v, %v) = %v", a, b, got)
		}
		if got := ids.Either(a, b); !slices.Equal(got, either) {
			t.Fatalf("Either(%v, %v) = %v", a, b, got)
		}
		parts := ids.Either(ids.Both(a, b), ids.Either(ids.Minus(a, b), ids.Minus(b, a)))
		if !slices.Equal(parts, either) {
			t.Fatalf("the parts of %v and %v come to %v", a, b, parts)
		}
		id := 1 + s.Below(13)
		if ids.Has(a, id) && !slices.Equal(ids.Put(ids.Drop(a, id), id), a) || !ids.Has(a, id) && !slices.Equal(ids.Drop(ids.Put(a, id), id), a) {
			t.Fatalf("Put and Drop of %d in %v", id, a)
		}
	}
}

// 0.5, 0.8: what is answered is new memory, and what is given stays as it is.
func TestNewMemory(t *testing.T) {
	room := []int{1, 3, 5, 77, 78}
	l := room[:3]
	for i, got := range [][]int{ids.Put(l, 0), ids.Put(l, 3), ids.Put(l, 9), ids.Drop(l, 5), ids.Drop(l, 9), ids.After(l, 0), ids.After(l, 1), ids.Both(l, l), ids.Minus(l, nil), ids.Either(l, nil), ids.Either(nil, l)} {
		for j := range got {
			got[j] = -1
		}
		_ = append(got, -1)
		if !slices.Equal(room, []int{1, 3, 5, 77, 78}) {
			t.Errorf("call %d shares memory with its argument: %v", i, room)
		}
	}
}
