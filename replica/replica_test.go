package replica_test

import (
	"math"
	"testing"

	"offprint/api"
	"offprint/card"
	"offprint/replica"
	"offprint/sample"
	"offprint/token"
	"offprint/trans"
)

func tok(dev, epoch, seq, cursor int) api.Token {
	return api.Token{Dev: dev, Epoch: epoch, Seq: seq, Cursor: cursor}
}
func c(id, ver int) api.Card  { return api.Card{ID: id, Ver: ver} }
func in(id, ver int) api.Item { return api.Item{Kind: api.In, Card: c(id, ver)} }
func up(id, ver int) api.Item { return api.Item{Kind: api.Up, Card: c(id, ver)} }
func out(id int) api.Item     { return api.Item{Kind: api.Out, Card: api.Card{ID: id}} }
func page(from, to api.Token, l ...api.Item) api.Page {
	return api.Page{From: from, To: to, Items: l}
}

func is(t *testing.T, r *replica.Replica, on bool, x api.Token, cards ...api.Card) {
	t.Helper()
	if r.On() != on || r.Token() != x || !card.Same(r.Cards(), cards) {
		t.Errorf("the replica is %v, %v, %v; want %v, %v, %v", r.On(), r.Token(), r.Cards(), on, x, cards)
	}
}

// P43.1
func TestBegin(t *testing.T) {
	for _, dev := range []int{-1, 6, math.MaxInt, math.MinInt} {
		if replica.New(dev) != nil {
			t.Errorf("New(%d) is a replica", dev)
		}
	}
	if replica.New(0) == nil {
		t.Errorf("New(0) is nil")
	}
	r := replica.New(5)
	is(t, r, false, api.Token{})
	for _, x := range [][2]int{{0, 0}, {-1, 0}, {1, -1}, {api.MaxNum + 1, 0}, {1, api.MaxNum + 1}} {
		if r.Begin(x[0], x[1]) || r.On() {
			t.Errorf("Begin(%v) is true", x)
		}
	}
	if !r.Begin(1, 7) {
		t.Errorf("Begin is false")
	}
	is(t, r, true, tok(5, 1, 7, 0))
	r.Take(page(tok(5, 1, 7, 0), tok(5, 1, 8, 3), in(2, 1)))
	if !r.Begin(1, 9) || r.Begin(0, 9) {
		t.Errorf("Begin of what there is")
	}
	is(t, r, true, tok(5, 1, 8, 3), c(2, 1))
	if !r.Begin(2, 4) {
		t.Errorf("Begin of another epoch is false")
	}
	is(t, r, true, tok(5, 2, 4, 0))
	r.Take(page(tok(5, 2, 4, 0), tok(5, 2, 4, 3), in(2, 1)))
	if !r.Begin(1, 5) {
		t.Errorf("Begin of an old epoch is false")
	}
	is(t, r, true, tok(5, 1, 5, 0))
	r.Stop()
	is(t, r, false, api.Token{})
	if !r.Begin(1, 6) {
		t.Errorf("Begin behind Stop")
	}
	is(t, r, true, tok(5, 1, 6, 0))
}

// P43.1, P43.2, P43.3
func TestTake(t *testing.T) {
	a, b := tok(2, 3, 7, 0), tok(2, 3, 9, 5)
	r := replica.New(2)
	if r.Take(page(a, b)) || r.Take(page(api.Token{}, api.Token{})) {
		t.Errorf("Take of a replica that is off")
	}
	r.Begin(3, 7)
	first := page(a, b, in(2, 1), in(4, 1))
	if !r.Take(first) {
		t.Errorf("Take is false")
	}
	is(t, r, true, b, c(2, 1), c(4, 1))
	z := tok(2, 3, 10, api.MaxID)
	for i, p := range []api.Page{
		first, page(tok(2, 3, 9, 4), z), page(tok(2, 3, 8, 5), z), page(tok(1, 3, 9, 5), tok(1, 3, 10, 5)), page(tok(2, 4, 9, 5), tok(2, 4, 10, 5)), page(b, a), page(b, tok(2, 4, 10, 5)), {Code: api.ErrNone, From: b}, {Code: api.ErrState, From: b}, {Reset: true, From: b, To: tok(2, 4, 10, 0)}, {Reset: true, From: b, To: tok(2, 3, 10, 1)}, {Reset: true, From: a, To: a}, {},
		page(b, z, in(2, 2)), page(b, z, out(3)), page(b, z, up(3, 2)), page(b, z, in(1, 1), up(2, 3), out(9)), page(b, z, in(7, 1), in(6, 1)), page(b, z, in(7, 0)),
	} {
		if r.Take(p) {
			t.Errorf("Take %d is true", i)
		}
		is(t, r, true, b, c(2, 1), c(4, 1))
	}
	if !r.Take(page(b, z, in(1, 1), up(2, 2), out(4), in(9, 3))) {
		t.Errorf("Take is false")
	}
	is(t, r, true, z, c(1, 1), c(2, 2), c(9, 3))
	if x, ok := r.Get(9); !ok || x != c(9, 3) {
		t.Errorf("Get = %v, %v", x, ok)
	}
	for _, id := range []int{4, 0, -1, math.MaxInt} {
		if x, ok := r.Get(id); ok || x != (api.Card{}) {
			t.Errorf("Get(%d) = %v, %v", id, x, ok)
		}
	}
	r.Cards()[0].ID = 99
	if !r.Take(page(z, z)) || !r.Take(page(z, z)) {
		t.Errorf("Take of a page that tells nothing")
	}
	is(t, r, true, z, c(1, 1), c(2, 2), c(9, 3))
	if !r.Take(api.Page{Reset: true, From: z, To: tok(2, 3, 4, 0)}) {
		t.Errorf("Take of a Reset is false")
	}
	is(t, r, true, tok(2, 3, 4, 0))
}

// P43.2
func TestNilReplica(t *testing.T) {
	for _, r := range []*replica.Replica{nil} {
		r.Stop()
		x, ok := r.Get(1)
		if r.Begin(1, 1) || r.Take(page(tok(0, 1, 1, 0), tok(0, 1, 1, 0))) || r.On() || r.Token() != (api.Token{}) || r.Cards() != nil || ok || x != (api.Card{}) {
			t.Errorf("a nil replica")
		}
	}
}

// P43.3, P43.4
func TestAnyPages(t *testing.T) {
	s := sample.New(43)
	r := replica.New(1)
	r.Begin(1, 0)
	taken := 0
	for range 20000 {
		from := r.Token()
		if s.Below(8) == 0 {
			from.Seq++
		}
		p := api.Page{From: from, To: tok(1, from.Epoch, from.Seq+s.Below(3), from.Cursor+s.Below(3))}
		for id := 1; id < 5; id++ {
			if _, there := r.Get(id); s.Below(3) == 0 {
				x := []api.Item{in(id, 1), up(id, 2), out(id)}[s.Below(3)]
				if there == (x.Kind == api.In) && s.Below(4) > 0 {
					continue
				}
				p.Items = append(p.Items, x)
			}
		}
		if s.Below(60) == 0 {
			p = api.Page{Reset: true, From: from, To: token.First(1, from.Epoch, from.Seq+1)}
		}
		before, cards := r.Token(), r.Cards()
		want, fits := trans.Apply(cards, p.Items)
		if p.Reset {
			want, fits = nil, true
		}
		if ok := r.Take(p); ok != (fits && from == before) {
			t.Fatalf("Take of %v is %v", p, ok)
		} else if !ok && (r.Token() != before || !card.Same(r.Cards(), cards)) {
			t.Fatalf("a page that is not taken changed something")
		} else if ok {
			taken++
			if r.Token() != p.To || !card.Same(r.Cards(), want) || p.To.Seq < before.Seq || !p.Reset && p.To.Cursor < before.Cursor {
				t.Fatalf("behind %v the replica is %v, %v", p, r.Token(), r.Cards())
			}
			if p.To != p.From && r.Take(p) {
				t.Fatalf("%v is taken twice", p)
			}
		}
	}
	if taken < 1000 {
		t.Errorf("too few pages were taken: %d", taken)
	}
}
