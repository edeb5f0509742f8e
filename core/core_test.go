package core_test

import (
	"math"
	"slices"
	"testing"

	"offprint/api"
	"offprint/book"
	"offprint/card"
	"offprint/core"
	"offprint/ledger"
	"offprint/pull"
	"offprint/sample"
	"offprint/state"
	"offprint/subs"
)

var (
	all    = []api.Node{{Op: api.All}}
	label1 = []api.Node{{Op: api.Label, N: 1}}
	seven  = api.Patch{Mask: 1, F: [8]api.Value{{Kind: api.Num, N: 7}}}
	eight  = api.Patch{Mask: 2, F: [8]api.Value{1: {Kind: api.Num, N: 8}}}
	with   = api.Patch{Mask: api.LabelBit, Labels: 2}
)

func edit(e api.Edit) api.Cmd    { return api.Cmd{Kind: api.DoEdit, Edit: e} }
func create(p api.Patch) api.Cmd { return edit(api.Edit{Kind: api.Create, Patch: p}) }
func drop(id int) api.Cmd        { return edit(api.Edit{Kind: api.Delete, ID: id}) }
func trim(keep int) api.Cmd      { return api.Cmd{Kind: api.DoTrim, Keep: keep} }
func leave(dev, req int) api.Cmd { return api.Cmd{Kind: api.DoLeave, Dev: dev, Req: req} }
func put(dev, req, id, base int, p api.Patch) api.Cmd {
	return api.Cmd{Kind: api.DoPut, Dev: dev, Req: req, ID: id, Base: base, Patch: p}
}
func sub(dev, req int, l []api.Node, m uint32) api.Cmd {
	return api.Cmd{Kind: api.DoSub, Dev: dev, Req: req, Filter: l, Mask: m}
}

// P32.1
func TestCheck(t *testing.T) {
	may := []api.Cmd{create(seven), drop(1), trim(0), trim(api.MaxNum), leave(0, 1), leave(5, api.MaxNum), put(0, 1, 1, 1, seven), put(5, 9, api.MaxID-1, api.MaxNum, with), sub(0, 1, all, 0), sub(5, 1, label1, api.AllMask)}
	for _, c := range may {
		if !core.Check(c) {
			t.Errorf("Check(%v) is false", c)
		}
		type field struct {
			has  bool
			fill func(c *api.Cmd)
		}
		request := c.Kind == api.DoPut || c.Kind == api.DoSub || c.Kind == api.DoLeave
		for i, f := range []field{
			{c.Kind == api.DoEdit, func(c *api.Cmd) { c.Edit.Kind = 1 }}, {c.Kind == api.DoEdit, func(c *api.Cmd) { c.Edit.Patch.Labels = 1 }}, {request, func(c *api.Cmd) { c.Dev = 1 }}, {request, func(c *api.Cmd) { c.Req = 1 }}, {c.Kind == api.DoPut, func(c *api.Cmd) { c.ID = 1 }}, {c.Kind == api.DoPut, func(c *api.Cmd) { c.Base = 1 }}, {c.Kind == api.DoTrim, func(c *api.Cmd) { c.Keep = 1 }},
			{c.Kind == api.DoPut, func(c *api.Cmd) { c.Patch = seven }}, {c.Kind == api.DoPut, func(c *api.Cmd) { c.Patch.Labels = 1 }}, {c.Kind == api.DoSub, func(c *api.Cmd) { c.Filter = all }}, {c.Kind == api.DoSub, func(c *api.Cmd) { c.Mask = 1 }},
		} {
			if d := c; !f.has {
				if f.fill(&d); core.Check(d) {
					t.Errorf("Check of %v with the field %d is true", c, i)
				}
			}
		}
	}
	for _, c := range []api.Cmd{
		{}, {Kind: 6}, {Kind: -1}, {Kind: math.MaxInt}, edit(api.Edit{}), edit(api.Edit{Kind: api.Create}), edit(api.Edit{Kind: api.Delete, ID: 1, Group: 1}), trim(-1), trim(api.MaxNum + 1), leave(-1, 1), leave(6, 1), leave(0, 0), leave(0, api.MaxNum+1),
		put(-1, 1, 1, 1, seven), put(6, 1, 1, 1, seven), put(0, 0, 1, 1, seven), put(0, 1, 0, 1, seven), put(0, 1, api.MaxID, 1, seven), put(0, 1, 1, 0, seven), put(0, 1, 1, api.MaxNum+1, seven), put(0, 1, 1, 1, api.Patch{}), put(0, 1, 1, 1, api.Patch{Mask: 1, Labels: 1}),
		sub(0, 1, nil, 1), sub(0, 1, []api.Node{{Op: api.Label, N: 16}}, 1), sub(0, 1, all, 512), sub(6, 1, all, 1), sub(0, 0, all, 1),
	} {
		if core.Check(c) {
			t.Errorf("Check(%v) is true", c)
		}
		x := core.New()
		if a, did := x.Do(c); did || x.Turns(c) || !ledger.Same(a, api.Reply{Kind: c.Kind, Code: api.ErrArg}) {
			t.Errorf("Do(%v) = %v, %v", c, a, did)
		}
	}
}

// P32.2, P32.3
func TestDo(t *testing.T) {
	x := core.New()
	for i, c := range []struct {
		c    api.Cmd
		want api.Reply
		did  bool
	}{
		{create(with), api.Reply{Kind: 1, Seq: 1, ID: 1}, true}, {create(seven), api.Reply{Kind: 1, Seq: 2, ID: 2}, true}, {drop(9), api.Reply{Kind: 1, Code: api.ErrNone}, false}, {edit(api.Edit{Kind: api.Open, Group: 2}), api.Reply{Kind: 1, Seq: 3}, true}, {edit(api.Edit{Kind: api.Write, ID: 2, Patch: eight}), api.Reply{Kind: 1, Seq: 4}, true},
		{put(0, 1, 1, 1, seven), api.Reply{Kind: 2, Req: 1, Code: api.ErrState}, true}, {put(0, 1, 1, 1, seven), api.Reply{Kind: 2, Req: 1, Code: api.ErrState}, false}, {leave(0, 2), api.Reply{Kind: 4, Req: 2, Code: api.ErrNone}, true}, {put(3, 1, 99, 1, seven), api.Reply{Kind: 2, Dev: 3, Req: 1, Code: api.ErrState}, true},
		{sub(0, 3, label1, 1|api.LabelBit), api.Reply{Kind: 3, Req: 3, Seq: 4, Epoch: 1, Filter: label1, Mask: 1 | api.LabelBit}, true},
		{sub(0, 2, all, 1), api.Reply{Kind: 3, Req: 2, Code: api.ErrOld}, false}, {leave(0, 1), api.Reply{Kind: 4, Req: 1, Code: api.ErrOld}, false}, {leave(0, 3), api.Reply{Kind: 3, Req: 3, Seq: 4, Epoch: 1, Filter: label1, Mask: 1 | api.LabelBit}, false},
		{put(0, 4, 9, 1, seven), api.Reply{Kind: 2, Req: 4, Code: api.ErrNone}, true}, {put(0, 5, 2, 1, eight), api.Reply{Kind: 2, Req: 5, Code: api.ErrOut}, true}, {put(0, 6, 1, 9, eight), api.Reply{Kind: 2, Req: 6, Code: api.ErrMask}, true}, {put(0, 7, 1, 2, seven), api.Reply{Kind: 2, Req: 7, Code: api.ErrStale}, true},
		{put(0, 9, 1, 1, seven), api.Reply{Kind: 2, Req: 9, Seq: 5, ID: 1, Ver: 2}, true}, {put(0, 9, 1, 1, seven), api.Reply{Kind: 2, Req: 9, Seq: 5, ID: 1, Ver: 2}, false}, {put(0, 8, 1, 2, seven), api.Reply{Kind: 2, Req: 8, Code: api.ErrOld}, false},
		{sub(0, 10, []api.Node{{Op: api.Not}, {Op: api.Not}, {Op: api.Label, N: 1}}, 1|api.LabelBit), api.Reply{Kind: 3, Req: 10, Seq: 5, Epoch: 1, Filter: label1, Mask: 1 | api.LabelBit}, true}, {sub(0, 11, all, 1), api.Reply{Kind: 3, Req: 11, Seq: 5, Epoch: 2, Filter: all, Mask: 1}, true},
		{drop(1), api.Reply{Kind: 1, Seq: 6}, true}, {put(0, 12, 1, 2, seven), api.Reply{Kind: 2, Req: 12, Code: api.ErrGone}, true}, {trim(0), api.Reply{Kind: 5, Seq: 6}, true}, {put(0, 13, 1, 2, seven), api.Reply{Kind: 2, Req: 13, Code: api.ErrNone}, true},
		{leave(0, 14), api.Reply{Kind: 4, Req: 14, Seq: 6}, true}, {sub(0, 15, all, 1), api.Reply{Kind: 3, Req: 15, Seq: 6, Epoch: 3, Filter: all, Mask: 1}, true},
		{sub(1, 1, all, 1), api.Reply{Kind: 3, Dev: 1, Req: 1, Seq: 6, Epoch: 1, Filter: all, Mask: 1}, true}, {sub(2, 1, all, 1), api.Reply{Kind: 3, Dev: 2, Req: 1, Seq: 6, Epoch: 1, Filter: all, Mask: 1}, true}, {sub(5, 1, all, 1), api.Reply{Kind: 3, Dev: 5, Req: 1, Seq: 6, Epoch: 1, Filter: all, Mask: 1}, true}, {sub(4, 1, all, 1), api.Reply{Kind: 3, Dev: 4, Req: 1, Code: api.ErrFull}, true}, {trim(99), api.Reply{Kind: 5, Seq: 6}, true},
	} {
		before := x.Data()
		if x.Turns(c.c) != c.did || !state.Same(before, x.Data()) {
			t.Errorf("Turns of the command %d is %v, or it did something", i, !c.did)
		}
		a, did := x.Do(c.c)
		if did != c.did || !ledger.Same(a, c.want) {
			t.Errorf("command %d: %v = %v, %v; want %v", i, c.c, a, did, c.want)
		}
		if !did && !state.Same(before, x.Data()) {
			t.Errorf("the command %d changed the state", i)
		}
		if len(a.Filter) > 0 {
			a.Filter[0].Op = 99
		}
	}
	d := x.Data()
	if state.Wrong(d) != 0 || d.Book.Seq != 6 || x.Seq() != 6 || d.Rows[0].Epoch != 3 || d.Rows[4].Epoch != 0 || d.Rows[4].Last != 1 || len(d.Subs) != 4 {
		t.Errorf("the state is %v", d)
	}
}

// P32.2
func TestTrim(t *testing.T) {
	x := core.New()
	x.Do(sub(0, 1, all, 1))
	x.Do(create(seven))
	x.Do(create(seven))
	x.Do(drop(1))
	x.Do(drop(2))
	x.Do(trim(9))
	if d := x.Data(); d.Subs[0].Floor != 0 || len(d.Book.Dead) != 2 {
		t.Errorf("a Trim that keeps all forgets some")
	}
	x.Do(trim(1))
	if d := x.Data(); d.Subs[0].Floor != 3 || len(d.Subs[0].Log) != 1 || len(d.Book.Dead) != 1 || d.Book.Dead[0].ID != 2 {
		t.Errorf("a Trim that keeps one step: %v", d)
	}
	x.Do(trim(0))
	if d := x.Data(); d.Subs[0].Floor != 4 || len(d.Subs[0].Log) != 0 || len(d.Book.Dead) != 0 {
		t.Errorf("a Trim that keeps none: %v", d)
	}
}

// P32.1, P32.4
func TestPullAndLoad(t *testing.T) {
	x := core.New()
	x.Do(create(seven))
	x.Do(sub(3, 1, all, 1))
	tok := api.Token{Dev: 3, Epoch: 1, Seq: 1}
	want := api.Page{From: tok, To: api.Token{Dev: 3, Epoch: 1, Seq: 1, Cursor: api.MaxID}, Items: []api.Item{{Kind: api.In, Card: card.Fresh(1, seven)}}}
	if got := x.Pull(tok, 4); !pull.Same(got, want) {
		t.Errorf("Pull = %v", got)
	}
	other := tok
	other.Dev = 2
	bad := tok
	bad.Dev = 77
	if got := x.Pull(other, 4); !pull.Same(got, api.Page{Code: api.ErrNone, From: other}) {
		t.Errorf("Pull of one without a subscription = %v", got)
	}
	if got := x.Pull(bad, 4); !pull.Same(got, api.Page{Code: api.ErrArg, From: bad}) {
		t.Errorf("Pull of no device = %v", got)
	}
	d := x.Data()
	y, ok := core.Load(d)
	if !ok || !state.Same(y.Data(), d) || !pull.Same(y.Pull(tok, 4), want) {
		t.Errorf("Load")
	}
	d.Subs[0].Epoch = 2
	if y, ok := core.Load(d); ok || y != nil {
		t.Errorf("Load of a Wrong state")
	}
	if !state.Same(core.New().Data(), state.New()) {
		t.Errorf("a new core's state")
	}
}

// P32.4
func TestNilCore(t *testing.T) {
	for _, x := range []*core.Core{nil} {
		tok := api.Token{Dev: 3, Epoch: 1, Seq: 1}
		if a, did := x.Do(create(seven)); did || !ledger.Same(a, api.Reply{Code: api.ErrState}) {
			t.Errorf("Do of a nil core = %v, %v", a, did)
		}
		if x.Turns(create(seven)) || x.Turns(trim(0)) || !pull.Same(x.Pull(tok, 1), api.Page{From: tok, Code: api.ErrState}) || x.Seq() != 0 || !state.Same(x.Data(), api.State{}) {
			t.Errorf("a nil core")
		}
	}
}

// P32.3: at the edges of the numbers.
func TestEdges(t *testing.T) {
	s := state.New()
	s.Book = api.Book{Seq: api.MaxNum - 99, Next: 2, Cards: []api.Card{{ID: 1, Ver: 3}}}
	s.Rows[0].Epoch = api.MaxNum - 1
	x, ok := core.Load(s)
	if !ok {
		t.Fatalf("Load is false")
	}
	if a, _ := x.Do(sub(0, 1, all, 1)); a.Code != api.OK || a.Epoch != api.MaxNum {
		t.Errorf("the last epoch: %v", a)
	}
	if a, _ := x.Do(sub(0, 2, label1, 1)); a.Code != api.ErrArg || x.Data().Rows[0].Epoch != api.MaxNum {
		t.Errorf("behind the last epoch: %v", a)
	}
	if a, did := x.Do(put(0, 3, 1, 3, seven)); a.Code != api.ErrFull || !did || a.ID != 0 || a.Seq != 0 {
		t.Errorf("a write at the end: %v", a)
	}
	if a, did := x.Do(create(seven)); a.Code != api.ErrFull || did || x.Turns(create(seven)) {
		t.Errorf("an edit at the end: %v", a)
	}
}

// P32.5, P32.6, P32.7
func TestAnyCommands(t *testing.T) {
	s := sample.New(32)
	x := core.New()
	puts := 0
	for i := range 6000 {
		d := x.Data()
		c := s.Cmd(max(d.Book.Next-1, 1), 8+i)
		if c.Kind == api.DoPut && s.Below(2) == 0 {
			for _, there := range d.Book.Cards {
				if there.ID >= c.ID {
					c.ID, c.Base = there.ID, there.Ver
					break
				}
			}
		}
		if s.Below(2) == 0 && c.Req > 0 {
			c.Req = d.Rows[c.Dev].Last + 1
		}
		turns := x.Turns(c)
		a, did := x.Do(c)
		now := x.Data()
		if turns != did || !did && !state.Same(d, now) || state.Wrong(now) != 0 {
			t.Fatalf("%v: Turns %v, did %v, Wrong %d", c, turns, did, state.Wrong(now))
		}
		if c.Kind == api.DoPut && did {
			if a.Code != api.OK && (!book.Same(d.Book, now.Book) || !subs.Same(d.Subs, now.Subs)) {
				t.Fatalf("a write that was not done changed something")
			}
			if a.Code == api.OK {
				puts++
				at := slices.IndexFunc(d.Subs, func(x api.Sub) bool { return x.Dev == c.Dev })
				m := d.Subs[at].Mask
				for j, old := range d.Book.Cards {
					want := old
					if old.ID == c.ID {
						want = card.Merge(old, c.Patch)
						if card.Diff(old, want)&^m != 0 || a.Ver != want.Ver || want.Ver != old.Ver+1 {
							t.Fatalf("%v was written through the mask %b", c.Patch, m)
						}
					}
					if now.Book.Cards[j] != want {
						t.Fatalf("the card %v is %v behind a write of %d", old, now.Book.Cards[j], c.ID)
					}
				}
			}
		}
		if c.Req > 0 && did {
			again, did := x.Do(c)
			if did || !ledger.Same(again, a) || !state.Same(now, x.Data()) {
				t.Fatalf("told again: %v = %v", c, again)
			}
		}
	}
	if puts < 20 {
		t.Errorf("too few writes were done: %d", puts)
	}
}
