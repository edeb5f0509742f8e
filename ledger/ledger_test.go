package ledger_test

import (
	"bytes"
	"math"
	"slices"
	"testing"

	"offprint/api"
	"offprint/ledger"
	"offprint/octet"
	"offprint/sample"
)

var (
	label3 = []api.Node{{Op: api.Not}, {Op: api.Label, N: 3}}
	put    = api.Reply{Kind: api.DoPut, Dev: 1, Req: 300, Seq: 9, ID: 4, Ver: 2}
	sub    = api.Reply{Kind: api.DoSub, Dev: 5, Req: 1, Seq: 0, Epoch: 3, Filter: label3, Mask: 257}
	leave  = api.Reply{Kind: api.DoLeave, Dev: 0, Req: 7, Seq: 300}
	failed = api.Reply{Kind: api.DoSub, Dev: 2, Req: 5, Code: api.ErrFull}
)

func changed(a api.Reply, f func(a *api.Reply)) api.Reply {
	a.Filter = slices.Clone(a.Filter)
	f(&a)
	return a
}

// P30.1
func TestCheckAndPut(t *testing.T) {
	room := []byte{9, 8, 7}
	for _, x := range []struct {
		a api.Reply
		b []byte
	}{
		{put, []byte{2, 1, 172, 2, 0, 9, 4, 2}}, {sub, []byte{3, 5, 1, 0, 0, 3, 2, 10, 3, 3, 129, 2}}, {leave, []byte{4, 0, 7, 0, 172, 2}}, {failed, []byte{3, 2, 5, 8}}, {api.Reply{Kind: api.DoPut, Req: 1, Code: api.ErrBad}, []byte{2, 0, 1, 16}},
	} {
		if !ledger.Check(x.a) {
			t.Errorf("Check(%v) is false", x.a)
		}
		if got := ledger.Put(room[:1], x.a); !bytes.Equal(got, append([]byte{9}, x.b...)) || room[1] != 8 {
			t.Errorf("Put(%v) = %v", x.a, got)
		}
		r := octet.New(append(x.b, 255))
		if got := ledger.Read(r); !ledger.Same(got, x.a) || r.Left() != 1 || r.Err() != api.OK {
			t.Errorf("Read of %v = %v, %d", x.b, got, r.Err())
		}
	}
	wrong := []api.Reply{{}}
	for _, a := range []api.Reply{put, sub, leave, failed} {
		for _, f := range []func(a *api.Reply){
			func(a *api.Reply) { a.Kind = 0 }, func(a *api.Reply) { a.Kind = api.DoEdit }, func(a *api.Reply) { a.Kind = api.DoTrim }, func(a *api.Reply) { a.Kind = 6 }, func(a *api.Reply) { a.Dev = -1 }, func(a *api.Reply) { a.Dev = 6 }, func(a *api.Reply) { a.Req = 0 }, func(a *api.Reply) { a.Req = api.MaxNum + 1 }, func(a *api.Reply) { a.Code = 17 }, func(a *api.Reply) { a.Code = -1 }, func(a *api.Reply) { a.Seq = -1 }, func(a *api.Reply) { a.Seq = api.MaxNum + 1 },
		} {
			wrong = append(wrong, changed(a, f))
		}
		zero := func(f func(a *api.Reply)) {
			if b := changed(a, f); !ledger.Same(a, b) {
				wrong = append(wrong, b)
			}
		}
		if a.Kind != api.DoPut || a.Code != api.OK {
			zero(func(a *api.Reply) { a.ID = 1 })
			zero(func(a *api.Reply) { a.Ver = 1 })
		}
		if a.Kind != api.DoSub || a.Code != api.OK {
			zero(func(a *api.Reply) { a.Epoch = 1 })
			zero(func(a *api.Reply) { a.Filter = label3 })
			zero(func(a *api.Reply) { a.Mask = 1 })
		}
		if a.Code != api.OK {
			zero(func(a *api.Reply) { a.Seq = 1 })
		}
	}
	for _, f := range []func(a *api.Reply){func(a *api.Reply) { a.ID = 0 }, func(a *api.Reply) { a.ID = api.MaxID }, func(a *api.Reply) { a.Ver = 0 }, func(a *api.Reply) { a.Ver = api.MaxNum + 1 }, func(a *api.Reply) { a.Code = api.ErrArg }} {
		wrong = append(wrong, changed(put, f))
	}
	for _, f := range []func(a *api.Reply){func(a *api.Reply) { a.Epoch = 0 }, func(a *api.Reply) { a.Epoch = api.MaxNum + 1 }, func(a *api.Reply) { a.Filter = nil }, func(a *api.Reply) { a.Filter[1].N = 16 }, func(a *api.Reply) { a.Mask = 512 }} {
		wrong = append(wrong, changed(sub, f))
	}
	for _, a := range wrong {
		if ledger.Check(a) {
			t.Errorf("Check(%v) is true", a)
		}
		if got := ledger.Put(room[:1], a); !bytes.Equal(got, []byte{9}) {
			t.Errorf("Put(%v) = %v", a, got)
		}
		if ledger.New().Note(a) {
			t.Errorf("Note(%v) is true", a)
		}
	}
}

// P30.1
func TestSame(t *testing.T) {
	for i, f := range []func(a *api.Reply){
		func(a *api.Reply) { a.Kind++ }, func(a *api.Reply) { a.Dev++ }, func(a *api.Reply) { a.Req++ }, func(a *api.Reply) { a.Code++ }, func(a *api.Reply) { a.ID++ }, func(a *api.Reply) { a.Ver++ }, func(a *api.Reply) { a.Seq++ }, func(a *api.Reply) { a.Epoch++ }, func(a *api.Reply) { a.Filter[1].N++ }, func(a *api.Reply) { a.Filter = nil }, func(a *api.Reply) { a.Mask++ },
	} {
		if ledger.Same(sub, changed(sub, f)) || ledger.Same(changed(sub, f), sub) {
			t.Errorf("Same does not see the change %d", i)
		}
	}
	if !ledger.Same(sub, changed(sub, func(a *api.Reply) {})) || !ledger.Same(put, changed(put, func(a *api.Reply) { a.Filter = []api.Node{} })) {
		t.Errorf("Same of like ones")
	}
}

// P30.1, P30.5
func TestGreatest(t *testing.T) {
	for _, a := range []api.Reply{{Kind: api.DoPut, Dev: 5, Req: api.MaxNum, Seq: api.MaxNum, ID: api.MaxID - 1, Ver: api.MaxNum}, {Kind: api.DoSub, Dev: 5, Req: api.MaxNum, Seq: api.MaxNum, Epoch: api.MaxNum, Filter: label3, Mask: api.AllMask}} {
		if got := ledger.Read(octet.New(ledger.Put(nil, a))); !ledger.Check(a) || !ledger.Same(got, a) {
			t.Errorf("%v is read as %v", a, got)
		}
	}
	room := []byte{9, 8}
	ledger.Put(room[:1], api.Reply{})[0] = 1
	ledger.Put(room[:1], put)[0] = 1
	if room[0] != 9 || room[1] != 8 {
		t.Errorf("Put shares what it was given")
	}
}

// P30.1
func TestReadErrors(t *testing.T) {
	for i, x := range []struct {
		b    []byte
		err  api.Errno
		left int
	}{
		{nil, api.ErrShort, 0}, {[]byte{0, 9}, api.ErrForm, 1}, {[]byte{1, 9}, api.ErrForm, 1}, {[]byte{5}, api.ErrLong, 1}, {[]byte{2, 6}, api.ErrLong, 1}, {[]byte{2, 0, 0, 0}, api.ErrForm, 1}, {[]byte{2, 0, 1, 17}, api.ErrLong, 1}, {[]byte{2, 0, 1}, api.ErrShort, 0}, {[]byte{4, 0, 1, 0}, api.ErrShort, 0}, {[]byte{2, 0, 129, 128, 128, 128, 128, 32}, api.ErrLong, 6},
		{[]byte{2, 0, 1, 0, 1, 0, 1}, api.ErrForm, 1}, {[]byte{2, 0, 1, 0, 1, 1, 0, 7}, api.ErrForm, 1}, {[]byte{2, 0, 1, 0, 1, 128, 128, 128, 128, 4}, api.ErrLong, 5}, {[]byte{3, 0, 1, 0, 1, 0, 1}, api.ErrForm, 1}, {[]byte{3, 0, 1, 0, 1, 1, 0, 5}, api.ErrForm, 1}, {[]byte{3, 0, 1, 0, 1, 1, 1, 1}, api.ErrShort, 0}, {[]byte{3, 0, 1, 0, 1, 1, 1, 1, 128, 4}, api.ErrLong, 2}, {[]byte{3, 0, 1, 0, 1, 1, 1, 13}, api.ErrLong, 1},
	} {
		r := octet.New(x.b)
		if a := ledger.Read(r); !ledger.Same(a, api.Reply{}) || r.Err() != x.err || r.Left() != x.left {
			t.Errorf("Read %d = %v, %d, left %d", i, a, r.Err(), r.Left())
		}
	}
	r := octet.New([]byte{2, 0, 1, 1})
	r.Fail(api.ErrPower)
	if a := ledger.Read(r); !ledger.Same(a, api.Reply{}) || r.Err() != api.ErrPower || r.Left() != 4 || !ledger.Same(ledger.Read(nil), api.Reply{}) {
		t.Errorf("Read of a reader that had an error, or of none")
	}
}

// P30.2
func TestAskAndNote(t *testing.T) {
	g := ledger.New()
	for _, x := range [][2]int{{-1, 1}, {6, 1}, {0, 0}, {0, -1}, {0, api.MaxNum + 1}, {math.MaxInt, math.MinInt}} {
		if a, err := g.Ask(x[0], x[1]); err != api.ErrArg || !ledger.Same(a, api.Reply{}) {
			t.Errorf("Ask(%v) = %v, %d", x, a, err)
		}
	}
	if _, err := g.Ask(5, api.MaxNum); err != api.OK {
		t.Errorf("Ask of a new one = %d", err)
	}
	note := changed(sub, func(a *api.Reply) { a.Req = 3 })
	if !g.Note(note) {
		t.Fatalf("Note is false")
	}
	note.Filter[1].N = 9
	want := changed(sub, func(a *api.Reply) { a.Req = 3 })
	for range 2 {
		a, err := g.Ask(5, 3)
		if err != api.ErrThere || !ledger.Same(a, want) {
			t.Errorf("Ask of what was noted = %v, %d", a, err)
		}
		a.Filter[1].N = 9
	}
	if a, err := g.Ask(5, 2); err != api.ErrOld || !ledger.Same(a, api.Reply{}) {
		t.Errorf("Ask of an old one = %v, %d", a, err)
	}
	if a, err := g.Ask(5, 4); err != api.OK || !ledger.Same(a, api.Reply{}) {
		t.Errorf("Ask of a new one = %v, %d", a, err)
	}
	if _, err := g.Ask(4, 3); err != api.OK {
		t.Errorf("Ask of another device = %d", err)
	}
	for _, req := range []int{1, 2, 3} {
		if g.Note(changed(sub, func(a *api.Reply) { a.Req = req })) {
			t.Errorf("Note of the old number %d", req)
		}
	}
	if a, _ := g.Ask(5, 3); !ledger.Same(a, want) || !g.Note(changed(failed, func(a *api.Reply) { a.Dev, a.Req = 5, 9 })) {
		t.Errorf("a Note that is false changed the row")
	}
	if _, err := g.Ask(5, 3); err != api.ErrOld {
		t.Errorf("Ask of what was passed = %d", err)
	}
}

// P30.2, P30.3
func TestRowsAndEpochs(t *testing.T) {
	g := ledger.New()
	if l := g.Data(); len(l) != api.MaxDevs || l[0].Last != 0 || l[0].Epoch != 0 {
		t.Errorf("a new ledger has the rows %v", l)
	}
	if g.Raise(2) != 1 || g.Raise(2) != 2 || g.Raise(5) != 1 || g.Raise(-1) != 0 || g.Raise(6) != 0 || g.Raise(0) != 1 {
		t.Errorf("Raise")
	}
	g.Note(put)
	l := g.Data()
	if l[2].Epoch != 2 || l[5].Epoch != 1 || l[1].Epoch != 0 || l[1].Last != 300 || !ledger.Same(l[1].Ans, put) || l[0].Last != 0 {
		t.Errorf("Data = %v", l)
	}
	g.Note(sub)
	g.Data()[5].Ans.Filter[1].N = 9
	l = g.Data()
	h, ok := ledger.Load(l)
	if !ok || !ledger.Same(l[5].Ans, sub) {
		t.Fatalf("Load is false")
	}
	l[5].Ans.Filter[1].N = 9
	if a, err := h.Ask(5, 1); err != api.ErrThere || !ledger.Same(a, sub) || h.Raise(2) != 3 || g.Raise(2) != 3 {
		t.Errorf("a loaded ledger")
	}
	for i, change := range []func(l []api.Row) []api.Row{
		func(l []api.Row) []api.Row { return l[:5] }, func(l []api.Row) []api.Row { return append(l, api.Row{}) }, func(l []api.Row) []api.Row { return nil }, func(l []api.Row) []api.Row { l[0].Last = -1; return l }, func(l []api.Row) []api.Row { l[0].Epoch = -1; return l }, func(l []api.Row) []api.Row { l[0].Epoch = api.MaxNum + 1; return l },
		func(l []api.Row) []api.Row { l[0].Last = 1; return l }, func(l []api.Row) []api.Row { l[1].Last = 0; return l }, func(l []api.Row) []api.Row { l[1].Last = 299; return l }, func(l []api.Row) []api.Row { l[1].Ans.Dev = 2; return l }, func(l []api.Row) []api.Row { l[1].Ans.Ver = 0; return l }, func(l []api.Row) []api.Row { l[0], l[1] = l[1], l[0]; return l }, func(l []api.Row) []api.Row { l[3].Ans.Mask = 1; return l }, func(l []api.Row) []api.Row { l[1].Last, l[1].Ans.Req = api.MaxNum+1, api.MaxNum+1; return l },
	} {
		if h, ok := ledger.Load(change(g.Data())); ok || h != nil {
			t.Errorf("Load %d is true", i)
		}
	}
	rows := g.Data()
	rows[3].Epoch = api.MaxNum
	rows[4].Epoch = api.MaxNum - 1
	h, _ = ledger.Load(rows)
	if h.Raise(3) != 0 || h.Data()[3].Epoch != api.MaxNum || h.Raise(4) != api.MaxNum || h.Raise(4) != 0 {
		t.Errorf("Raise above MaxNum")
	}
	var none *ledger.Ledger
	if a, err := none.Ask(0, 1); err != api.ErrState || !ledger.Same(a, api.Reply{}) || none.Note(put) || none.Raise(0) != 0 || none.Data() != nil {
		t.Errorf("a nil ledger")
	}
	if a, err := none.Ask(-1, 0); err != api.ErrState || !ledger.Same(a, api.Reply{}) {
		t.Errorf("a nil ledger that is asked what may not be")
	}
}

// some is an answer that may be, most times.
func some(s *sample.Source) api.Reply {
	a := api.Reply{Kind: api.DoPut + s.Below(3), Dev: s.Below(3), Req: 1 + s.Below(40)}
	if s.Below(3) == 0 {
		a.Code = api.Errno(1 + s.Below(16))
		return a
	}
	a.Seq = s.Below(300)
	switch a.Kind {
	case api.DoPut:
		a.ID, a.Ver = 1+s.Below(300), 1+s.Below(9)
	case api.DoSub:
		a.Epoch, a.Filter, a.Mask = 1+s.Below(9), s.Fit(), s.Mask()
	}
	return a
}

// P30.4, P30.5
func TestAnyAnswers(t *testing.T) {
	s := sample.New(30)
	g := ledger.New()
	last := map[int]api.Reply{}
	read := 0
	for i := range 5000 {
		a := some(s)
		if s.Below(4) == 0 {
			a.Req += i / 10
		}
		if was := last[a.Dev]; g.Note(a) != (a.Req > was.Req) {
			t.Fatalf("Note of %d behind %d", a.Req, was.Req)
		} else if a.Req > was.Req {
			last[a.Dev] = a
		}
		if was := last[a.Dev]; was.Req > 0 {
			if b, err := g.Ask(a.Dev, was.Req); err != api.ErrThere || !ledger.Same(b, was) {
				t.Fatalf("Ask of the last one = %v, %d", b, err)
			}
		}
		b := ledger.Put(nil, a)
		r := octet.New(append(bytes.Clone(b), 1, 255))
		if got := ledger.Read(r); !ledger.Same(got, a) || r.Left() != 2 {
			t.Fatalf("%v is read as %v", a, got)
		}
		for range 1 + s.Below(2) {
			b[s.Below(len(b))] = byte(s.Below(9))
		}
		r = octet.New(b)
		if got := ledger.Read(r); r.Err() == api.OK {
			read++
			if !ledger.Check(got) || !bytes.Equal(ledger.Put(nil, got), b[:len(b)-r.Left()]) {
				t.Fatalf("%v is read as %v", b, got)
			}
		}
	}
	if read < 200 {
		t.Errorf("too few were read: %d", read)
	}
}
