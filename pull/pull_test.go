package pull_test

import (
	"bytes"
	"testing"

	"offprint/api"
	"offprint/book"
	"offprint/card"
	"offprint/delta"
	"offprint/eval"
	"offprint/fill"
	"offprint/member"
	"offprint/octet"
	"offprint/pull"
	"offprint/sample"
	"offprint/token"
	"offprint/trans"
	"offprint/view"
)

var (
	all   = []api.Node{{Op: api.All}}
	patch = api.Patch{Mask: 3, F: [8]api.Value{{Kind: api.Num, N: 7}, {Kind: api.Num, N: 8}}}
)

func tok(dev, epoch, seq, cursor int) api.Token {
	return api.Token{Dev: dev, Epoch: epoch, Seq: seq, Cursor: cursor}
}
func c(id, ver int) api.Card {
	return api.Card{ID: id, Ver: ver, F: [8]api.Value{{Kind: api.Num, N: 7}}}
}
func in(id, ver int) api.Item { return api.Item{Kind: api.In, Card: c(id, ver)} }
func up(id, ver int) api.Item { return api.Item{Kind: api.Up, Card: c(id, ver)} }
func out(id int) api.Item     { return api.Item{Kind: api.Out, Card: api.Card{ID: id}} }

func do(b *book.Book, v *view.View, l ...api.Edit) {
	for _, e := range l {
		steps, _ := b.Do(e)
		v.Step(b, steps)
	}
}
func create() api.Edit      { return api.Edit{Kind: api.Create, Patch: patch} }
func write(id int) api.Edit { return api.Edit{Kind: api.Write, ID: id, Patch: patch} }

// P28.1
func TestAnswer(t *testing.T) {
	b := book.New()
	do(b, nil, create(), create(), create())
	v := view.New(b, all, 1)
	ask := func(x api.Token, page int) api.Page { return pull.Answer(b, v, 4, x, page) }
	page := func(from, to api.Token, l ...api.Item) api.Page { return api.Page{From: from, To: to, Items: l} }
	check := func(name string, got, want api.Page) {
		t.Helper()
		if !pull.Same(got, want) {
			t.Errorf("%s: %v, want %v", name, got, want)
		}
	}
	check("the first page", ask(tok(1, 4, 3, 0), 1), page(tok(1, 4, 3, 0), tok(1, 4, 3, 1), in(1, 1)))
	check("the second page", ask(tok(1, 4, 3, 1), 1), page(tok(1, 4, 3, 1), tok(1, 4, 3, 2), in(2, 1)))
	check("the last page", ask(tok(1, 4, 3, 2), 1), page(tok(1, 4, 3, 2), tok(1, 4, 3, api.MaxID), in(3, 1)))
	check("nothing new", ask(tok(1, 4, 3, api.MaxID), 1), page(tok(1, 4, 3, api.MaxID), tok(1, 4, 3, api.MaxID)))
	do(b, v, write(1), api.Edit{Kind: api.Delete, ID: 2}, write(3), create())
	check("all that turned", ask(tok(1, 4, 3, api.MaxID), 9), page(tok(1, 4, 3, api.MaxID), tok(1, 4, 7, api.MaxID), up(1, 2), out(2), up(3, 2), in(4, 1)))
	check("a part of it", ask(tok(1, 4, 3, api.MaxID), 2), page(tok(1, 4, 3, api.MaxID), tok(1, 4, 5, api.MaxID), up(1, 2), out(2)))
	check("with room left", ask(tok(1, 4, 3, 1), 2), page(tok(1, 4, 3, 1), tok(1, 4, 7, 3), up(1, 2), in(3, 2)))
	check("with room for all", ask(tok(1, 4, 3, 1), 3), page(tok(1, 4, 3, 1), tok(1, 4, 7, api.MaxID), up(1, 2), in(3, 2), in(4, 1)))
	check("without room", ask(tok(1, 4, 3, 2), 2), page(tok(1, 4, 3, 2), tok(1, 4, 7, 2), up(1, 2), out(2)))
	check("not there yet", ask(tok(1, 4, 3, 2), 1), page(tok(1, 4, 3, 2), tok(1, 4, 4, 2), up(1, 2)))
	reset := func(from api.Token) api.Page { return api.Page{Reset: true, From: from, To: tok(from.Dev, 4, 7, 0)} }
	for _, x := range []api.Token{tok(1, 3, 7, 5), tok(5, 5, 7, api.MaxID), tok(1, 4, 2, 0), tok(1, 4, 8, 0), tok(1, 4, 0, api.MaxID)} {
		check("reset", ask(x, 3), reset(x))
	}
	v.Trim(5)
	check("behind a trim", ask(tok(1, 4, 4, api.MaxID), 3), reset(tok(1, 4, 4, api.MaxID)))
	check("at the floor", ask(tok(1, 4, 5, api.MaxID), 3), page(tok(1, 4, 5, api.MaxID), tok(1, 4, 7, api.MaxID), up(3, 2), in(4, 1)))
	for _, x := range []api.Token{{}, tok(-1, 4, 3, 0), tok(6, 4, 3, 0), tok(1, 0, 3, 0), tok(1, 4, -1, 0), tok(1, 4, 3, api.MaxID+1)} {
		check("a wrong token", ask(x, 3), api.Page{Code: api.ErrArg, From: x})
		check("a wrong token, and no view", pull.Answer(b, nil, 4, x, 3), api.Page{Code: api.ErrArg, From: x})
	}
	for _, n := range []int{0, -1, 17} {
		check("a wrong page", ask(tok(1, 4, 7, 0), n), api.Page{Code: api.ErrArg, From: tok(1, 4, 7, 0)})
	}
	check("a page of 16", ask(tok(1, 4, 7, api.MaxID), 16), page(tok(1, 4, 7, api.MaxID), tok(1, 4, 7, api.MaxID)))
	check("no view", pull.Answer(b, nil, 4, tok(1, 4, 7, 0), 3), api.Page{Code: api.ErrNone, From: tok(1, 4, 7, 0)})
}

// some are pages that may be, with their bytes.
func some() ([]api.Page, [][]byte) {
	a, z := tok(1, 4, 3, 0), tok(1, 4, 7, api.MaxID)
	return []api.Page{{From: a, To: a}, {From: a, To: z, Items: []api.Item{up(1, 2), out(2), in(3, 1)}}, {Reset: true, From: z, To: tok(1, 9, 2, 0)}, {Code: api.ErrNone, From: a}, {Code: api.ErrBad, From: z}},
		[][]byte{{0, 1, 4, 3, 0, 0, 1, 4, 3, 0, 0}, {0, 1, 4, 3, 0, 0, 1, 4, 7, 128, 128, 128, 128, 4, 3, 3, 1, 2, 0, 1, 1, 7, 2, 2, 1, 3, 1, 0, 1, 1, 7}, {0, 1, 4, 7, 128, 128, 128, 128, 4, 1, 1, 9, 2, 0}, {6, 1, 4, 3, 0}, {16, 1, 4, 7, 128, 128, 128, 128, 4}}
}

// P28.2
func TestCheckAndPut(t *testing.T) {
	may, wire := some()
	room := []byte{9, 8, 7}
	for i, p := range may {
		if !pull.Check(p) {
			t.Errorf("Check(%v) is false", p)
		}
		if got := pull.Put(room[:1], p); !bytes.Equal(got, append([]byte{9}, wire[i]...)) {
			t.Errorf("Put(%v) = %v", p, got)
		}
		for j, q := range may {
			if pull.Same(p, q) != (i == j) {
				t.Errorf("Same of %d and %d", i, j)
			}
		}
	}
	a, z := tok(1, 4, 3, 5), tok(1, 4, 7, api.MaxID)
	var many []api.Item
	for i := range 17 {
		many = append(many, in(i+1, 1))
	}
	if !pull.Check(api.Page{From: a, To: z, Items: many[:16]}) {
		t.Errorf("a page of 16 may not be")
	}
	for _, p := range []api.Page{
		{}, {From: a}, {To: a}, {From: z, To: a}, {From: a, To: tok(2, 4, 3, 5)}, {From: a, To: tok(1, 5, 3, 5)}, {From: a, To: tok(1, 4, 2, 5)}, {From: a, To: tok(1, 4, 3, 4)}, {From: a, To: z, Items: []api.Item{in(2, 1), in(1, 1)}}, {From: a, To: z, Items: []api.Item{{}}}, {From: a, To: z, Items: many},
		{Reset: true, From: a}, {Reset: true, From: a, To: tok(1, 4, 3, 1)}, {Reset: true, From: a, To: tok(2, 4, 3, 0)}, {Reset: true, From: a, To: tok(1, 0, 3, 0)}, {Reset: true, From: a, To: tok(1, 4, 3, 0), Items: []api.Item{in(1, 1)}}, {Reset: true, To: tok(1, 4, 3, 0)},
		{Code: api.ErrNone}, {Code: api.ErrNone, From: a, To: a}, {Code: api.ErrNone, From: a, Reset: true}, {Code: api.ErrNone, From: a, Items: []api.Item{in(1, 1)}}, {Code: 17, From: a}, {Code: -1, From: a}, {Code: 17, From: a, To: a}, {Code: -1, From: a, To: a},
	} {
		if pull.Check(p) {
			t.Errorf("Check(%v) is true", p)
		}
		got := pull.Put(room[:1], p)
		if !bytes.Equal(got, []byte{9}) {
			t.Errorf("Put(%v) = %v", p, got)
		}
		got[0] = 1
	}
	if !bytes.Equal(room, []byte{9, 8, 7}) {
		t.Errorf("Put touches what it was given")
	}
	p := may[1]
	p.Items = p.Items[:2]
	if pull.Same(p, may[1]) {
		t.Errorf("Same of other items")
	}
}

// P28.2
func TestReadErrors(t *testing.T) {
	for i, x := range []struct {
		b    []byte
		err  api.Errno
		left int
	}{
		{nil, api.ErrShort, 0}, {[]byte{17}, api.ErrLong, 1}, {[]byte{0, 6}, api.ErrLong, 1}, {[]byte{6, 1, 0, 3, 0}, api.ErrForm, 2}, {[]byte{6, 1, 4, 3}, api.ErrShort, 0}, {[]byte{0, 1, 4, 3, 0, 2, 1}, api.ErrForm, 2}, {[]byte{0, 1, 4, 3, 0, 0, 6}, api.ErrLong, 1}, {[]byte{0, 1, 4, 3, 0, 0, 1, 4, 3, 0}, api.ErrShort, 0}, {[]byte{0, 1, 4, 3, 0, 0, 1, 4, 3, 0, 17}, api.ErrLong, 1},
		{[]byte{0, 1, 4, 3, 0, 0, 1, 4, 3, 0, 1, 0, 9}, api.ErrForm, 1}, {[]byte{0, 1, 4, 3, 0, 0, 1, 4, 3, 0, 2, 0, 2, 5}, api.ErrForm, 2}, {[]byte{0, 1, 4, 3, 0, 0, 1, 4, 3, 0, 1, 4, 9}, api.ErrLong, 2}, {[]byte{0, 1, 4, 3, 0, 0, 1, 4, 3, 0, 1, 2, 128, 128, 128, 128, 4}, api.ErrLong, 5}, {[]byte{0, 1, 4, 3, 0, 0, 1, 4, 3, 0, 1, 1, 0, 9}, api.ErrForm, 1}, {[]byte{0, 1, 4, 3, 0, 0, 1, 4, 3, 0, 2, 2, 5}, api.ErrShort, 0},
		{[]byte{0, 1, 4, 3, 0, 0, 1, 4, 3, 0, 1, 2, 0, 7}, api.ErrForm, 1}, {[]byte{0, 1, 4, 3, 0, 0, 1, 4, 3, 0, 2, 2, 0, 0}, api.ErrForm, 0}, {[]byte{0, 1, 4, 3, 0, 0, 1, 4, 3, 0, 2, 2, 0}, api.ErrShort, 0}, {[]byte{0, 1, 4, 3, 0, 0, 1, 4, 3, 0, 2, 2, 5, 2, 5, 7}, api.ErrForm, 1}, {[]byte{0, 1, 4, 3, 0, 0, 1, 4, 2, 0, 0, 7}, api.ErrForm, 1}, {[]byte{0, 1, 4, 3, 0, 1, 1, 4, 3, 1, 7}, api.ErrForm, 1}, {[]byte{0, 1, 4, 3, 0, 1, 2, 4, 3, 0}, api.ErrForm, 0},
	} {
		r := octet.New(x.b)
		if p := pull.Read(r); !pull.Same(p, api.Page{}) || r.Err() != x.err || r.Left() != x.left {
			t.Errorf("Read %d = %v, %d, left %d", i, p, r.Err(), r.Left())
		}
	}
	r := octet.New([]byte{6, 1, 4, 3, 0})
	r.Fail(api.ErrPower)
	if p := pull.Read(r); !pull.Same(p, api.Page{}) || r.Err() != api.ErrPower || r.Left() != 5 || !pull.Same(pull.Read(nil), api.Page{}) {
		t.Errorf("Read of a reader that had an error, or of none")
	}
}

// P28.5
func TestGreatest(t *testing.T) {
	p := api.Page{From: tok(5, api.MaxNum, api.MaxNum, 0), To: tok(5, api.MaxNum, api.MaxNum, api.MaxID)}
	for i := range api.MaxPage {
		p.Items = append(p.Items, out(api.MaxID-api.MaxPage+i))
	}
	if got := pull.Read(octet.New(pull.Put(nil, p))); !pull.Same(got, p) {
		t.Errorf("the greatest page is read as %v", got)
	}
}

// P28.5
func TestWhatWasPutIsRead(t *testing.T) {
	may, _ := some()
	s := sample.New(28)
	read := 0
	for range 20000 {
		p := may[s.Below(len(may))]
		if s.Below(2) == 0 {
			p = api.Page{From: tok(1, 1, 1, 1), To: tok(1, 1, 2, 2)}
			for i := range s.Below(4) {
				x := api.Item{Kind: 1 + s.Below(3), Card: s.Card(i*3 + 1)}
				if x.Kind == api.Out {
					x.Card = api.Card{ID: x.Card.ID}
				}
				p.Items = append(p.Items, x)
			}
		}
		b := pull.Put(nil, p)
		r := octet.New(append(bytes.Clone(b), 1, 255))
		if got := pull.Read(r); !pull.Same(got, p) || r.Left() != 2 || r.Err() != api.OK {
			t.Fatalf("%v is read as %v", p, got)
		}
		for range 1 + s.Below(2) {
			b[s.Below(len(b))] = byte(s.Below(8))
		}
		r = octet.New(b)
		if got := pull.Read(r); r.Err() == api.OK {
			read++
			if !pull.Check(got) || !bytes.Equal(pull.Put(nil, got), b[:len(b)-r.Left()]) {
				t.Fatalf("%v is read as %v", b, got)
			}
		}
	}
	if read < 500 {
		t.Errorf("too few were read: %d", read)
	}
}

// P28.3, P28.4
func TestAnyPulls(t *testing.T) {
	s := sample.New(29)
	for range 60 {
		b, l, m, page := book.New(), s.Fit(), s.Mask(), 1+s.Below(5)
		f := eval.New(l)
		for range s.Below(30) {
			b.Do(s.Edit(b.Data().Next))
		}
		v := view.New(b, l, m)
		x := token.First(2, 3, b.Seq())
		var cards []api.Card
		past := map[int]*book.Book{}
		ask := func() {
			p := pull.Answer(b, v, 3, x, page)
			if p.Code != api.OK || !pull.Check(p) || p.From != x || len(p.Items) > page {
				t.Fatalf("the answer %v", p)
			}
			if x = p.To; p.Reset {
				cards = nil
				return
			}
			var ok bool
			if cards, ok = trans.Apply(cards, p.Items); !ok {
				t.Fatalf("%v can't be applied", p.Items)
			}
			if old := past[x.Seq]; old != nil && !card.Same(cards, member.Ideal(old, f, m, x.Cursor)) {
				t.Fatalf("the cards at %v are %v", x, cards)
			}
		}
		for range 60 {
			do(b, v, s.Edit(b.Data().Next))
			past[b.Seq()], _ = book.Load(b.Data())
			if s.Below(20) == 0 {
				v.Trim(b.Seq() - s.Below(10))
			}
			if s.Below(3) == 0 {
				ask()
			}
		}
		most := 1 + delta.Steps(v.Log(), 0, v.Now(), api.MaxID)/page + 1 + fill.Most(len(member.IDs(b, f)), page)
		asked := 0
		for !token.Whole(x) || x.Seq != b.Seq() {
			ask()
			if asked++; asked > most {
				t.Fatalf("more than %d answers", most)
			}
		}
		if !card.Same(cards, member.Ideal(b, f, m, api.MaxID)) {
			t.Fatalf("not all is told: %v", cards)
		}
	}
}
