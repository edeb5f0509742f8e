package book_test

import (
	"slices"
	"testing"

	"offprint/api"
	"offprint/book"
	"offprint/card"
	"offprint/sample"
)

var (
	patch = api.Patch{Mask: 1 | api.LabelBit, Labels: 2, F: [8]api.Value{{Kind: api.Num, N: 7}}}
	two   = api.Patch{Mask: 2, F: [8]api.Value{1: {Kind: api.Text, S: "b"}}}
)

func create() api.Edit        { return api.Edit{Kind: api.Create, Patch: patch} }
func write(id int) api.Edit   { return api.Edit{Kind: api.Write, ID: id, Patch: two} }
func drop(id int) api.Edit    { return api.Edit{Kind: api.Delete, ID: id} }
func open(g int) api.Edit     { return api.Edit{Kind: api.Open, Group: g} }
func shut(g int) api.Edit     { return api.Edit{Kind: api.Close, Group: g} }
func join(g, id int) api.Edit { return api.Edit{Kind: api.Join, Group: g, ID: id} }
func quit(g, id int) api.Edit { return api.Edit{Kind: api.Quit, Group: g, ID: id} }
func steps(l ...int) []api.Change {
	var out []api.Change
	for i := 0; i < len(l); i += 2 {
		out = append(out, api.Change{Seq: l[i], ID: l[i+1]})
	}
	return out
}

// P20.1
func TestDo(t *testing.T) {
	b := book.New()
	if b.Seq() != 0 || len(b.Cards()) != 0 || !book.Same(b.Data(), api.Book{Next: 1}) {
		t.Errorf("a new book = %v", b.Data())
	}
	for i, c := range []struct {
		e    api.Edit
		want []api.Change
		err  api.Errno
	}{
		{open(1), steps(1, 0), api.OK}, {create(), steps(2, 1), api.OK}, {create(), steps(3, 2), api.OK}, {create(), steps(4, 3), api.OK}, {open(3), steps(5, 0), api.OK},
		{join(1, 2), steps(6, 2), api.OK}, {join(1, 1), steps(7, 1), api.OK}, {join(3, 1), steps(8, 1), api.OK}, {join(1, 3), steps(9, 3), api.OK},
		{api.Edit{}, nil, api.ErrArg}, {api.Edit{Kind: api.Create}, nil, api.ErrMask}, {api.Edit{Kind: api.Open, Group: 16}, nil, api.ErrArg}, {api.Edit{Kind: 8}, nil, api.ErrArg},
		{open(1), nil, api.ErrThere}, {shut(2), nil, api.ErrNone}, {join(2, 1), nil, api.ErrNone}, {join(1, 9), nil, api.ErrNone}, {join(2, 9), nil, api.ErrNone}, {join(1, 1), nil, api.ErrThere}, {quit(3, 2), nil, api.ErrNone}, {quit(2, 1), nil, api.ErrNone}, {write(9), nil, api.ErrNone}, {drop(9), nil, api.ErrNone},
		{write(2), steps(10, 2), api.OK}, {quit(1, 3), steps(11, 3), api.OK}, {drop(1), steps(12, 1), api.OK}, {drop(1), nil, api.ErrGone}, {write(1), nil, api.ErrGone}, {join(1, 1), nil, api.ErrGone}, {join(2, 1), nil, api.ErrGone}, {quit(1, 1), nil, api.ErrNone},
		{join(1, 3), steps(13, 3), api.OK}, {shut(1), steps(14, 2, 15, 3, 16, 0), api.OK}, {shut(3), steps(17, 0), api.OK}, {create(), steps(18, 4), api.OK},
	} {
		before := b.Data()
		got, err := b.Do(c.e)
		if err != c.err || !slices.Equal(got, c.want) || err != api.OK && (got != nil || !book.Same(before, b.Data())) {
			t.Errorf("edit %d: %v = %v, %d", i, c.e, got, err)
		}
	}
	want := api.Book{Seq: 18, Next: 5, Cards: []api.Card{card.Merge(card.Fresh(2, patch), two), card.Fresh(3, patch), card.Fresh(4, patch)}, Dead: []api.Dead{{ID: 1, Ver: 1, Seq: 12}}}
	if !book.Same(b.Data(), want) {
		t.Errorf("the book = %v", b.Data())
	}
}

// P20.1
func TestTheExample(t *testing.T) {
	b := book.New()
	for _, e := range []api.Edit{open(1), create(), create(), join(1, 2)} {
		b.Do(e)
	}
	if got, err := b.Do(shut(1)); err != api.OK || !slices.Equal(got, steps(5, 2, 6, 0)) {
		t.Errorf("Close = %v, %d", got, err)
	}
}

// P20.1
func TestFull(t *testing.T) {
	at := func(seq int) *book.Book {
		b, _ := book.Load(api.Book{Seq: seq, Next: 3, Cards: []api.Card{{ID: 1, Ver: 1}, {ID: 2, Ver: api.MaxNum}}})
		return b
	}
	if l, err := at(api.MaxNum - 99).Do(create()); l != nil || err != api.ErrFull {
		t.Errorf("Do at the end = %v, %d", l, err)
	}
	if l, err := at(api.MaxNum - 99).Do(api.Edit{}); l != nil || err != api.ErrArg {
		t.Errorf("Do of a wrong one at the end = %v, %d", l, err)
	}
	if l, err := at(api.MaxNum - 99).Do(write(9)); l != nil || err != api.ErrFull {
		t.Errorf("Do of none at the end = %v, %d", l, err)
	}
	if l, err := at(api.MaxNum - 100).Do(create()); !slices.Equal(l, steps(api.MaxNum-99, 3)) || err != api.OK {
		t.Errorf("Do ahead of the end = %v, %d", l, err)
	}
	if l, err := at(5).Do(write(2)); l != nil || err != api.ErrFull {
		t.Errorf("Do of a card at its last version = %v, %d", l, err)
	}
	b := book.New()
	for range api.MaxCards {
		b.Do(create())
	}
	if l, err := b.Do(create()); l != nil || err != api.ErrFull || b.Seq() != api.MaxCards {
		t.Errorf("Do of one too many = %v, %d", l, err)
	}
}

// P20.2
func TestAsked(t *testing.T) {
	b := book.New()
	for _, e := range []api.Edit{create(), create(), create(), open(2), open(9), join(2, 3), join(9, 3), join(2, 1), drop(2)} {
		b.Do(e)
	}
	if c, err := b.Get(1); err != api.OK || c != card.Fresh(1, patch) {
		t.Errorf("Get = %v, %d", c, err)
	}
	if c, err := b.Get(2); err != api.ErrGone || c != (api.Card{}) {
		t.Errorf("Get of what was deleted = %v, %d", c, err)
	}
	if _, err := b.Get(7); err != api.ErrNone {
		t.Errorf("Get of none = %d", err)
	}
	if b.Groups(3) != 1<<2|1<<9 || b.Groups(1) != 1<<2 || b.Groups(2) != 0 || b.Groups(-4) != 0 || b.Seq() != 9 {
		t.Errorf("Groups and Seq")
	}
	if l := b.Cards(); len(l) != 2 || l[0].ID != 1 || l[1].ID != 3 {
		t.Errorf("Cards = %v", l)
	}
	d := b.Data()
	d.Cards[0].ID, d.Dead[0].ID, d.Groups[0].Members[0], d.Groups[0].No = 9, 9, 9, 9
	if c, _ := b.Get(1); c.ID != 1 || b.Groups(1) != 1<<2 {
		t.Errorf("Data shares memory with the book")
	}
	b.Trim(8)
	if _, err := b.Get(2); err != api.ErrGone {
		t.Errorf("Trim below = %d", err)
	}
	b.Trim(9)
	if _, err := b.Get(2); err != api.ErrNone {
		t.Errorf("Trim = %d", err)
	}
}

// P20.2
func TestLoad(t *testing.T) {
	good := func() api.Book {
		return api.Book{Seq: 9, Next: 5, Cards: []api.Card{{ID: 1, Ver: 1}, {ID: 3, Ver: 2}}, Dead: []api.Dead{{ID: 2, Ver: 1, Seq: 9}}, Groups: []api.Group{{No: 1, Members: []int{1, 3}}, {No: 4}}}
	}
	if b, ok := book.Load(good()); !ok || !book.Same(b.Data(), good()) {
		t.Errorf("Load is false")
	}
	for _, d := range []api.Book{{Next: 1}, {Seq: api.MaxNum, Next: api.MaxID}} {
		if b, ok := book.Load(d); !ok || !book.Same(b.Data(), d) {
			t.Errorf("Load of %v is false", d)
		}
	}
	for i, change := range []func(d *api.Book){
		func(d *api.Book) { d.Seq = -1 }, func(d *api.Book) { d.Seq = api.MaxNum + 1 }, func(d *api.Book) { d.Seq = 8 }, func(d *api.Book) { d.Next = 3 }, func(d *api.Book) { d.Next = 0 }, func(d *api.Book) { d.Cards[0].Ver = 0 }, func(d *api.Book) { d.Dead[0].ID = 3 },
		func(d *api.Book) { d.Groups[1].No = 1 }, func(d *api.Book) { d.Groups[0].No = -1 }, func(d *api.Book) { d.Groups[0].Members[0] = 2 }, func(d *api.Book) { d.Groups[0].Members[1] = 4 }, func(d *api.Book) { d.Groups[1].Members = []int{3, 1} }, func(d *api.Book) { d.Groups[0].Members[0] = 0 },
	} {
		d := good()
		change(&d)
		if b, ok := book.Load(d); ok || b != nil || book.Same(d, good()) || book.Same(good(), d) {
			t.Errorf("Load of the change %d is true, or Same does not see it", i)
		}
	}
	for i, change := range []func(d *api.Book){
		func(d *api.Book) { d.Seq++ }, func(d *api.Book) { d.Next++ }, func(d *api.Book) { d.Cards = d.Cards[:1] }, func(d *api.Book) { d.Dead = nil }, func(d *api.Book) { d.Dead[0].Ver++ }, func(d *api.Book) { d.Groups = d.Groups[:1] }, func(d *api.Book) { d.Groups[0].Members = d.Groups[0].Members[1:] }, func(d *api.Book) { d.Cards[1].F[7].N = 1 },
	} {
		d := good()
		change(&d)
		if book.Same(d, good()) || book.Same(good(), d) {
			t.Errorf("Same does not see the change %d", i)
		}
	}
	d := good()
	b, _ := book.Load(d)
	d.Cards[0].Ver, d.Groups[0].Members[0], d.Dead[0].Ver = 7, 3, 7
	if !book.Same(b.Data(), good()) {
		t.Errorf("a loaded book keeps what it was given")
	}
	if _, ok := book.Load(api.Book{}); ok {
		t.Errorf("a zero book is loaded")
	}
}

// P20.2
func TestNilBook(t *testing.T) {
	for _, b := range []*book.Book{nil} {
		b.Trim(3)
		l, err := b.Do(create())
		c, err2 := b.Get(1)
		if l != nil || err != api.ErrState || c != (api.Card{}) || err2 != api.ErrState || b.Groups(1) != 0 || b.Seq() != 0 || b.Cards() != nil || !book.Same(b.Data(), api.Book{}) || b.Data().Cards != nil {
			t.Errorf("a nil book")
		}
	}
	var b *book.Book
	if _, err := b.Do(api.Edit{}); err != api.ErrState {
		t.Errorf("Do of a nil book = %d", err)
	}
}

// P20.3, P20.4
func TestAnyEdits(t *testing.T) {
	s := sample.New(20)
	b := book.New()
	other := book.New()
	seq := 0
	for i := range 4000 {
		before, e := b.Data(), s.Edit(b.Data().Next)
		groups := map[int]uint32{}
		for _, c := range before.Cards {
			groups[c.ID] = b.Groups(c.ID)
		}
		if i%50 == 49 {
			floor := b.Seq() - s.Below(30)
			b.Trim(floor)
			other.Trim(floor)
			before = b.Data()
		}
		if i%20 == 19 {
			var ok bool
			if other, ok = book.Load(b.Data()); !ok {
				t.Fatalf("Data can't be loaded")
			}
		}
		l, err := b.Do(e)
		l2, err2 := other.Do(e)
		if err != err2 || !slices.Equal(l, l2) || !book.Same(b.Data(), other.Data()) {
			t.Fatalf("the book of Data does another thing of %v", e)
		}
		if err != api.OK && !book.Same(before, b.Data()) {
			t.Fatalf("%v changed the book beside an error", e)
		}
		touched := map[int]int{}
		for _, x := range l {
			if seq++; x.Seq != seq {
				t.Fatalf("the step %d has the number %d", seq, x.Seq)
			}
			touched[x.ID]++
		}
		if b.Seq() != seq {
			t.Fatalf("Seq = %d behind %d steps", b.Seq(), seq)
		}
		for _, c := range before.Cards {
			now, _ := b.Get(c.ID)
			if touched[c.ID] == 0 && (now != c || b.Groups(c.ID) != groups[c.ID]) || touched[c.ID] > 1 {
				t.Fatalf("%v touches the card %d", e, c.ID)
			}
		}
	}
	if seq < 500 {
		t.Errorf("too few steps: %d", seq)
	}
}
