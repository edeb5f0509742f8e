package group_test

import (
	"math"
	"slices"
	"testing"

	"offprint/api"
	"offprint/group"
	"offprint/sample"
)

func g(no int, members ...int) api.Group { return api.Group{No: no, Members: members} }
func list(l ...api.Group) []api.Group    { return l }

// P17.1
func TestCheck(t *testing.T) {
	for _, l := range [][]api.Group{nil, list(g(0)), list(g(15, 1, 2)), list(g(0, api.MaxID-1), g(1), g(15, 1))} {
		if !group.Check(l) {
			t.Errorf("Check(%v) is false", l)
		}
	}
	for _, l := range [][]api.Group{list(g(-1)), list(g(16)), list(g(1), g(1)), list(g(2), g(1)), list(g(1, 0)), list(g(1, 2, 1)), list(g(1, 1, 1)), list(g(1), g(2, api.MaxID)), list(g(1, -1))} {
		if group.Check(l) {
			t.Errorf("Check(%v) is true", l)
		}
	}
}

// P17.1
func TestChanges(t *testing.T) {
	l := list(g(2, 1, 5), g(4))
	type call func([]api.Group) ([]api.Group, api.Errno)
	open := func(n int) call { return func(l []api.Group) ([]api.Group, api.Errno) { return group.Open(l, n) } }
	shut := func(n int) call { return func(l []api.Group) ([]api.Group, api.Errno) { return group.Close(l, n) } }
	join := func(n, id int) call {
		return func(l []api.Group) ([]api.Group, api.Errno) { return group.Join(l, n, id) }
	}
	quit := func(n, id int) call {
		return func(l []api.Group) ([]api.Group, api.Errno) { return group.Quit(l, n, id) }
	}
	for i, c := range []struct {
		do   call
		want []api.Group
		err  api.Errno
	}{
		{open(-1), nil, api.ErrArg}, {open(16), nil, api.ErrArg}, {open(2), nil, api.ErrThere}, {open(3), list(g(2, 1, 5), g(3), g(4)), api.OK}, {open(0), list(g(0), g(2, 1, 5), g(4)), api.OK}, {open(15), list(g(2, 1, 5), g(4), g(15)), api.OK},
		{shut(-1), nil, api.ErrArg}, {shut(16), nil, api.ErrArg}, {shut(3), nil, api.ErrNone}, {shut(2), list(g(4)), api.OK}, {shut(4), list(g(2, 1, 5)), api.OK}, {shut(math.MaxInt), nil, api.ErrArg},
		{join(-1, 1), nil, api.ErrArg}, {join(16, 1), nil, api.ErrArg}, {join(2, 0), nil, api.ErrArg}, {join(2, api.MaxID), nil, api.ErrArg}, {join(3, 0), nil, api.ErrArg}, {join(3, 1), nil, api.ErrNone}, {join(2, 5), nil, api.ErrThere},
		{join(2, 3), list(g(2, 1, 3, 5), g(4)), api.OK}, {join(4, api.MaxID-1), list(g(2, 1, 5), g(4, api.MaxID-1)), api.OK},
		{quit(-1, 1), nil, api.ErrArg}, {quit(16, 1), nil, api.ErrArg}, {quit(2, 0), nil, api.ErrArg}, {quit(2, api.MaxID), nil, api.ErrArg}, {quit(3, 1), nil, api.ErrNone}, {quit(2, 3), nil, api.ErrNone}, {quit(4, 1), nil, api.ErrNone},
		{quit(2, 1), list(g(2, 5), g(4)), api.OK}, {quit(2, 5), list(g(2, 1), g(4)), api.OK},
	} {
		got, err := c.do(l)
		if err != c.err || !group.Same(got, c.want) || err != api.OK && got != nil {
			t.Errorf("call %d = %v, %d; want %v, %d", i, got, err, c.want, c.err)
		}
		for j := range got {
			for k := range got[j].Members {
				got[j].Members[k] = 77
			}
			got[j].No = 9
		}
		if !group.Same(l, list(g(2, 1, 5), g(4))) {
			t.Fatalf("call %d changed what it was given", i)
		}
	}
}

// P17.2
func TestMembers(t *testing.T) {
	l := list(g(0, 5), g(2, 1, 5), g(15))
	if got := group.Members(l, 2); !slices.Equal(got, []int{1, 5}) {
		t.Errorf("Members = %v", got)
	}
	group.Members(l, 2)[0] = 9
	for _, no := range []int{15, 1, -1, 16, math.MaxInt, math.MinInt} {
		if got := group.Members(l, no); len(got) != 0 {
			t.Errorf("Members of %d = %v", no, got)
		}
	}
	if group.Of(l, 5) != 5 || group.Of(l, 1) != 4 || group.Of(l, 2) != 0 || group.Of(nil, 5) != 0 || group.Of(l, -1) != 0 {
		t.Errorf("Of")
	}
	left := group.Leave(l, 5)
	if !group.Same(left, list(g(0), g(2, 1), g(15))) || !group.Same(group.Leave(l, 7), l) || len(group.Leave(nil, 5)) != 0 {
		t.Errorf("Leave = %v", left)
	}
	left[1].Members[0] = 8
	if !group.Same(l, list(g(0, 5), g(2, 1, 5), g(15))) {
		t.Errorf("what was given was changed: %v", l)
	}
	for _, m := range [][]api.Group{nil, list(g(0, 5), g(2, 1, 5)), list(g(0, 5), g(2, 1), g(15)), list(g(0, 5), g(2, 1, 6), g(15)), list(g(0, 5), g(3, 1, 5), g(15)), list(g(0, 5), g(2, 1, 5), g(15), g(16))} {
		if group.Same(l, m) || group.Same(m, l) {
			t.Errorf("Same of %v", m)
		}
	}
	if !group.Same(nil, []api.Group{}) || !group.Same(list(g(1)), list(api.Group{No: 1, Members: []int{}})) {
		t.Errorf("Same of empty lists")
	}
}

// P17.1, P17.3
func TestAnyChanges(t *testing.T) {
	s := sample.New(17)
	var l []api.Group
	in := map[[2]int]bool{}
	for range 4000 {
		no, id := s.Below(5), 1+s.Below(5)
		var next []api.Group
		var err api.Errno
		switch s.Below(5) {
		case 0:
			next, err = group.Open(l, no)
		case 1:
			if s.Below(4) > 0 {
				continue
			}
			next, err = group.Close(l, no)
			for i := range 6 {
				delete(in, [2]int{no, i})
			}
		case 2, 3:
			if next, err = group.Join(l, no, id); err == api.OK {
				in[[2]int{no, id}] = true
			}
		case 4:
			if next, err = group.Quit(l, no, id); err == api.OK {
				delete(in, [2]int{no, id})
			}
		}
		if err == api.OK {
			l = next
		}
		if !group.Check(l) {
			t.Fatalf("%v may not be", l)
		}
		for no := range 5 {
			for id := 1; id < 6; id++ {
				if is := in[[2]int{no, id}]; group.Of(l, id)>>no&1 == 1 != is || slices.Contains(group.Members(l, no), id) != is {
					t.Fatalf("the card %d in %d of %v", id, no, l)
				}
			}
		}
	}
}
