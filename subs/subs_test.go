package subs_test

import (
	"math"
	"slices"
	"testing"

	"offprint/api"
	"offprint/book"
	"offprint/parse"
	"offprint/sample"
	"offprint/subs"
)

var patch = api.Patch{Mask: api.LabelBit | 1, Labels: 6, F: [8]api.Value{{Kind: api.Num, N: 7}}}

func tree(s string) []api.Node {
	l, _, _ := parse.Filter(s)
	return l
}

func do(b *book.Book, t *subs.Table, l ...api.Edit) {
	for _, e := range l {
		steps, _ := b.Do(e)
		t.Step(b, steps)
	}
}
func create() api.Edit      { return api.Edit{Kind: api.Create, Patch: patch} }
func write(id int) api.Edit { return api.Edit{Kind: api.Write, ID: id, Patch: patch} }

// P29.1
func TestSet(t *testing.T) {
	b, x := book.New(), subs.New()
	do(b, nil, create(), create())
	if len(x.Data()) != 0 {
		t.Errorf("a new table has subscriptions")
	}
	for i, c := range []struct {
		dev, epoch int
		l          []api.Node
		m          uint32
		want       int
		err        api.Errno
	}{
		{-1, 1, tree("all"), 1, 0, api.ErrArg}, {6, 1, tree("all"), 1, 0, api.ErrArg}, {0, 0, tree("all"), 1, 0, api.ErrArg}, {0, api.MaxNum + 1, tree("all"), 1, 0, api.ErrArg}, {0, 1, nil, 1, 0, api.ErrArg}, {0, 1, tree("all"), 512, 0, api.ErrArg},
		{3, 7, tree("label 1 and label 2"), 1, 7, api.OK}, {3, 8, tree("label 2 and label 1"), 1, 7, api.OK}, {3, 8, tree("not (not label 2 or not label 1)"), 1, 7, api.OK}, {3, 0, tree("label 2 and label 1"), 1, 0, api.ErrArg}, {3, 9, tree("label 2 and label 1"), 3, 9, api.OK}, {3, 10, tree("label 2"), 3, 10, api.OK}, {3, 10, tree("label 1"), 3, 10, api.OK},
		{0, 1, tree("all"), 0, 1, api.OK}, {5, api.MaxNum, tree("never"), 511, api.MaxNum, api.OK}, {1, 4, tree("has 0"), 1, 4, api.OK}, {2, 1, tree("all"), 1, 0, api.ErrFull}, {2, 1, tree("all"), 512, 0, api.ErrArg}, {1, 5, tree("has 1"), 1, 5, api.OK}, {1, 6, tree("has 1 and all"), 1, 5, api.OK},
	} {
		before := x.Data()
		got, err := x.Set(b, c.dev, c.epoch, c.l, c.m)
		if got != c.want || err != c.err {
			t.Errorf("Set %d = %d, %d", i, got, err)
		}
		if (err != api.OK || got != c.epoch) && !subs.Same(before, x.Data()) {
			t.Errorf("Set %d changed what it had not to", i)
		}
	}
	if _, err := x.Set(nil, 0, 1, tree("all"), 1); err != api.ErrArg {
		t.Errorf("Set of no book = %d", err)
	}
	want := []api.Sub{{Dev: 0, Epoch: 1, Filter: tree("all"), Floor: 2, Members: []int{1, 2}}, {Dev: 1, Epoch: 5, Filter: tree("has 1"), Mask: 1, Floor: 2}, {Dev: 3, Epoch: 10, Filter: tree("label 1"), Mask: 3, Floor: 2, Members: []int{1, 2}}, {Dev: 5, Epoch: api.MaxNum, Filter: tree("never"), Mask: 511, Floor: 2}}
	if !subs.Same(x.Data(), want) {
		t.Errorf("Data = %v", x.Data())
	}
	if x.Drop(2) != api.ErrNone || x.Drop(-1) != api.ErrNone || x.Drop(99) != api.ErrNone || x.Drop(1) != api.OK || x.Drop(1) != api.ErrNone || !subs.Same(x.Data(), slices.Concat(want[:1], want[2:])) {
		t.Errorf("Drop")
	}
	if got, err := x.Set(b, 2, 1, tree("all"), 1); got != 1 || err != api.OK {
		t.Errorf("Set behind a Drop = %d, %d", got, err)
	}
}

// P29.1: a new view takes the place of that which there was.
func TestSetAnew(t *testing.T) {
	b, x := book.New(), subs.New()
	do(b, x, create())
	x.Set(b, 0, 1, tree("label 1"), 1)
	do(b, x, write(1), write(1))
	if v, epoch := x.Get(0); epoch != 1 || len(v.Log()) != 2 || v.Floor() != 1 || v.Now() != 3 {
		t.Errorf("Step is not told to the view")
	}
	x.Set(b, 0, 5, tree("label 1"), 1)
	if v, epoch := x.Get(0); epoch != 1 || len(v.Log()) != 2 {
		t.Errorf("a Set of what there is changes the view")
	}
	x.Set(b, 0, 2, tree("label 1"), 3)
	if v, epoch := x.Get(0); epoch != 2 || len(v.Log()) != 0 || v.Floor() != 3 || v.Mask() != 3 {
		t.Errorf("a Set of another mask leaves the view")
	}
}

// P29.2
func TestSteps(t *testing.T) {
	b, x := book.New(), subs.New()
	x.Set(b, 0, 1, tree("label 1"), 1)
	x.Set(b, 4, 2, tree("label 9"), 1)
	do(b, x, create(), write(1), write(1))
	for dev, n := range map[int]int{0: 3, 4: 0} {
		if v, _ := x.Get(dev); v.Now() != 3 || len(v.Log()) != n {
			t.Errorf("the view of %d is at %d, with %d turns", dev, v.Now(), len(v.Log()))
		}
	}
	x.Trim(2)
	for dev, n := range map[int]int{0: 1, 4: 0} {
		if v, _ := x.Get(dev); v.Floor() != 2 || len(v.Log()) != n {
			t.Errorf("the view of %d has the floor %d, and %d turns", dev, v.Floor(), len(v.Log()))
		}
	}
	for _, dev := range []int{1, -1, 6, math.MaxInt} {
		if v, epoch := x.Get(dev); v != nil || epoch != 0 {
			t.Errorf("Get(%d) = %v, %d", dev, v, epoch)
		}
	}
	d := x.Data()
	d[0].Filter[0].N, d[0].Members[0], d[0].Log[0].Seq = 9, 9, 9
	if v, _ := x.Get(0); v.Asks().Nodes()[0].N != 1 || v.Members()[0] != 1 || v.Log()[0].Seq != 3 {
		t.Errorf("Data shares memory with the table")
	}
}

// P29.2
func TestLoad(t *testing.T) {
	b, x := book.New(), subs.New()
	x.Set(b, 0, 1, tree("label 1"), 1)
	x.Set(b, 4, api.MaxNum, tree("all"), 0)
	do(b, x, create(), write(1), create())
	got, ok := subs.Load(b, x.Data())
	if !ok || !subs.Same(got.Data(), x.Data()) {
		t.Fatalf("Load is false")
	}
	for i, change := range []func(l []api.Sub){
		func(l []api.Sub) { l[0].Dev = -1 }, func(l []api.Sub) { l[1].Dev = 6 }, func(l []api.Sub) { l[1].Dev = 0 }, func(l []api.Sub) { l[0].Dev = 5 }, func(l []api.Sub) { l[0].Epoch = 0 }, func(l []api.Sub) { l[1].Epoch = api.MaxNum + 1 }, func(l []api.Sub) { l[0].Filter = nil }, func(l []api.Sub) { l[0].Mask = 512 }, func(l []api.Sub) { l[0].Floor = 2 }, func(l []api.Sub) { l[0].Floor = -1 },
		func(l []api.Sub) { l[0].Members = nil }, func(l []api.Sub) { l[0].Members = []int{1} }, func(l []api.Sub) { l[0].Members[1] = 3 }, func(l []api.Sub) { l[0].Log[0].New = 5 }, func(l []api.Sub) { l[0].Log[0].Seq = 9 },
	} {
		l := x.Data()
		change(l)
		if y, ok := subs.Load(b, l); ok || y != nil {
			t.Errorf("Load %d is true", i)
		}
		if subs.Same(l, x.Data()) || subs.Same(x.Data(), l) {
			t.Errorf("Same does not see the change %d", i)
		}
	}
	for i, change := range []func(l []api.Sub){func(l []api.Sub) { l[0].Epoch++ }, func(l []api.Sub) { l[1].Dev++ }, func(l []api.Sub) { l[1].Mask++ }, func(l []api.Sub) { l[1].Filter[0].Op++ }} {
		l := x.Data()
		if change(l); subs.Same(l, x.Data()) {
			t.Errorf("Same does not see the small change %d", i)
		}
	}
	one := func(dev int) api.Sub { return api.Sub{Dev: dev, Epoch: 1, Filter: tree("never"), Floor: 4} }
	do(b, nil, api.Edit{Kind: api.Open})
	if _, ok := subs.Load(b, []api.Sub{one(0), one(1), one(2), one(5)}); !ok {
		t.Errorf("Load of four is false")
	}
	if _, ok := subs.Load(b, []api.Sub{one(0), one(1), one(2), one(3), one(4)}); ok {
		t.Errorf("Load of five is true")
	}
	if _, ok := subs.Load(nil, []api.Sub{one(0)}); ok {
		t.Errorf("Load over no book is true")
	}
	if y, ok := subs.Load(b, nil); !ok || len(y.Data()) != 0 || subs.Same(x.Data(), nil) || !subs.Same(nil, []api.Sub{}) {
		t.Errorf("Load of none")
	}
}

// P29.2
func TestNilTable(t *testing.T) {
	for _, x := range []*subs.Table{nil} {
		x.Step(book.New(), []api.Change{{Seq: 1, ID: 1}})
		x.Trim(3)
		epoch, err := x.Set(book.New(), 0, 1, tree("all"), 1)
		v, e := x.Get(0)
		if epoch != 0 || err != api.ErrState || x.Drop(0) != api.ErrState || v != nil || e != 0 || x.Data() != nil {
			t.Errorf("a nil table")
		}
	}
}

// P29.3, P29.4
func TestAnyTable(t *testing.T) {
	s := sample.New(29)
	b, x := book.New(), subs.New()
	for i := range 3000 {
		dev := s.Below(api.MaxDevs)
		before := x.Data()
		others := func(l []api.Sub) []api.Sub {
			return slices.DeleteFunc(l, func(y api.Sub) bool { return y.Dev == dev })
		}
		switch s.Below(8) {
		case 0:
			l := s.Fit()
			epoch, err := x.Set(b, dev, i+1, l, s.Mask())
			if v, e := x.Get(dev); err == api.OK && (e != epoch || !subs.Same(x.Data(), x.Data()) || v == nil) {
				t.Fatalf("Set told %d, %d", epoch, err)
			}
			if !subs.Same(others(before), others(x.Data())) {
				t.Fatalf("Set changed others")
			}
		case 1:
			x.Drop(dev)
			if !subs.Same(others(before), others(x.Data())) {
				t.Fatalf("Drop changed others")
			}
		case 2:
			if s.Below(4) == 0 {
				x.Trim(b.Seq() - s.Below(20))
			}
		default:
			do(b, x, s.Edit(b.Data().Next))
		}
		if i%10 == 0 {
			y, ok := subs.Load(b, x.Data())
			if !ok || !subs.Same(y.Data(), x.Data()) {
				t.Fatalf("the table of Data is another one")
			}
			x = y
		}
	}
}
