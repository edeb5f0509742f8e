package server_test

import (
	"testing"

	"offprint/api"
	"offprint/cmdwire"
	"offprint/core"
	"offprint/disk"
	"offprint/ledger"
	"offprint/pull"
	"offprint/sample"
	"offprint/server"
	"offprint/state"
	"offprint/statewire"
	"offprint/vault"
)

var (
	all   = []api.Node{{Op: api.All}}
	seven = api.Patch{Mask: 1, F: [8]api.Value{{Kind: api.Num, N: 7}}}
)

func create() api.Cmd {
	return api.Cmd{Kind: api.DoEdit, Edit: api.Edit{Kind: api.Create, Patch: seven}}
}
func drop(id int) api.Cmd {
	return api.Cmd{Kind: api.DoEdit, Edit: api.Edit{Kind: api.Delete, ID: id}}
}
func sub(dev, req int) api.Cmd {
	return api.Cmd{Kind: api.DoSub, Dev: dev, Req: req, Filter: all, Mask: 1}
}

func open(t *testing.T, size int) (*disk.Disk, *server.Server) {
	t.Helper()
	d := disk.New(size)
	if err := server.Format(d); err != api.OK {
		t.Fatalf("Format = %d", err)
	}
	s, err := server.Open(d)
	if err != api.OK {
		t.Fatalf("Open = %d", err)
	}
	return d, s
}

// P40.1
func TestFormatLookOpen(t *testing.T) {
	if server.Format(nil) != api.ErrState || server.Format(disk.New(2)) != api.ErrArg {
		t.Errorf("Format of no disk, or of a small one")
	}
	for d, want := range map[*disk.Disk]api.Errno{nil: api.ErrState, disk.New(2): api.ErrArg, disk.New(3): api.ErrBad} {
		s, err := server.Look(d)
		x, err2 := server.Open(d)
		if !state.Same(s, api.State{}) || err != want || x != nil || err2 != want {
			t.Errorf("Look = %d, Open = %d; want %d", err, err2, want)
		}
	}
	d, s := open(t, 9)
	if got, err := server.Look(d); err != api.OK || !state.Same(got, state.New()) || s.Gone() || s.Free() != 6 || !state.Same(s.Data(), state.New()) {
		t.Errorf("a new disk's state is %v, %d", got, err)
	}
	if text, _, _ := vault.Look(d); text != string(statewire.Encode(state.New())) {
		t.Errorf("the text is %q", text)
	}
	d.Fuse(0)
	d.Sync()
	if _, err := server.Look(d); err != api.ErrPower {
		t.Errorf("Look without power = %d", err)
	}
	if _, err := server.Open(d); err != api.ErrPower {
		t.Errorf("Open without power = %d", err)
	}
}

// P40.1
func TestWhatIsNoState(t *testing.T) {
	text := string(statewire.Encode(state.New()))
	cmd := func(c api.Cmd) string { return string(cmdwire.Put(nil, c)) }
	for i, x := range []struct {
		text string
		recs []string
		want api.Errno
	}{
		{text, nil, api.OK}, {text, []string{cmd(create()), cmd(create()), cmd(drop(1))}, api.OK}, {"", nil, api.ErrBad}, {text + "\x00", nil, api.ErrBad}, {text, []string{""}, api.ErrBad}, {text, []string{cmd(create()) + "\x00"}, api.ErrBad}, {text, []string{cmd(drop(1))}, api.ErrBad}, {text, []string{cmd(create()), cmd(drop(1)), cmd(drop(1))}, api.ErrBad}, {text, []string{cmd(sub(1, 1)), cmd(sub(1, 1))}, api.ErrBad},
	} {
		d := disk.New(20)
		vault.Format(d, x.text)
		v, _, _, _ := vault.Open(d)
		for _, rec := range x.recs {
			v.Add(rec)
		}
		got, err := server.Look(d)
		s, err2 := server.Open(d)
		if err != x.want || err2 != x.want || (s != nil) != (err == api.OK) || err != api.OK && !state.Same(got, api.State{}) {
			t.Errorf("Look %d = %d, Open = %d", i, err, err2)
		}
		if err == api.OK && (got.Book.Seq != len(x.recs) || !state.Same(got, s.Data())) {
			t.Errorf("the state %d is %v", i, got)
		}
	}
}

// P40.2
func TestStep(t *testing.T) {
	d, s := open(t, 40)
	x := core.New()
	for i, c := range []api.Cmd{create(), {}, drop(9), create(), sub(3, 1), sub(3, 1), drop(1), {Kind: api.DoTrim}, {Kind: api.DoLeave, Dev: 3, Req: 2}} {
		free, turns := s.Free(), x.Turns(c)
		want, _ := x.Do(c)
		got, err := s.Step(c)
		if err != api.OK || !ledger.Same(got, want) || !state.Same(s.Data(), x.Data()) {
			t.Errorf("Step %d = %v, %d; want %v", i, got, err, want)
		}
		if kept := s.Free() != free; kept != turns {
			t.Errorf("Step %d: kept is %v", i, kept)
		}
		if look, err := server.Look(d); err != api.OK || !state.Same(look, x.Data()) {
			t.Errorf("behind the step %d lies %v, %d", i, look, err)
		}
	}
	tok := api.Token{Dev: 3, Epoch: 1, Seq: 3}
	if got := s.Pull(tok, 4); !pull.Same(got, x.Pull(tok, 4)) || got.Code != api.ErrNone {
		t.Errorf("Pull = %v", got)
	}
}

// P40.2: when a state is renewed, and when there is no room for it.
func TestRoom(t *testing.T) {
	_, s := open(t, 6) // four pieces: the state, and records
	if s.Free() != 3 {
		t.Fatalf("Free = %d", s.Free())
	}
	open := func(g int) api.Cmd { return api.Cmd{Kind: api.DoEdit, Edit: api.Edit{Kind: api.Open, Group: g}} }
	for g, free := range []int{2, 1, 2, 1, 2} { // renewed where less would be left than a state has
		if a, err := s.Step(open(g)); err != api.OK || a.Code != api.OK || s.Free() != free {
			t.Errorf("Step %d = %v, %d; free is %d", g, a, err, s.Free())
		}
	}
	d, s := open2(t)
	for i := 0; ; i++ {
		before := s.Data()
		a, err := s.Step(create())
		if err != api.OK || i > 48 {
			t.Fatalf("Step = %d", err)
		}
		if a.Code == api.OK {
			continue
		}
		if !ledger.Same(a, api.Reply{Kind: api.DoEdit, Code: api.ErrFull}) || !state.Same(before, s.Data()) || s.Gone() {
			t.Errorf("a Step without room = %v", a)
		}
		if look, _ := server.Look(d); !state.Same(look, before) {
			t.Errorf("a Step without room changes what lies there")
		}
		c := sub(2, 5)
		if a, err := s.Step(c); err != api.OK || !ledger.Same(a, api.Reply{Kind: api.DoSub, Dev: 2, Req: 5, Code: api.ErrFull}) {
			t.Errorf("a request without room = %v, %d", a, err)
		}
		if a, _ := s.Step(drop(77)); a.Code != api.ErrNone {
			t.Errorf("what does not turn, without room = %v", a)
		}
		break
	}
}

// open2 is a server with little room.
func open2(t *testing.T) (*disk.Disk, *server.Server) {
	t.Helper()
	return open(t, 8)
}

// P40.2
func TestGone(t *testing.T) {
	d, s := open(t, 20)
	s.Step(create())
	s.Step(sub(0, 1))
	before, tok := s.Data(), api.Token{Epoch: 1, Seq: 1}
	d.Fuse(1)
	if a, err := s.Step(create()); err != api.ErrPower || !ledger.Same(a, api.Reply{}) || !s.Gone() {
		t.Errorf("Step when the power goes = %v, %d", a, err)
	}
	d.Crash(nil)
	for _, c := range []api.Cmd{create(), {}, sub(0, 1)} {
		if a, err := s.Step(c); err != api.ErrState || !ledger.Same(a, api.Reply{}) {
			t.Errorf("Step of a server that is gone = %v, %d", a, err)
		}
	}
	if !state.Same(s.Data(), before) || !pull.Same(s.Pull(tok, 3), api.Page{From: tok, Code: api.ErrState}) || s.Free() == 0 {
		t.Errorf("a server that is gone")
	}
	for i, s := range []*server.Server{nil} {
		a, err := s.Step(create())
		if !ledger.Same(a, api.Reply{}) || err != api.ErrState || !s.Gone() || !pull.Same(s.Pull(tok, 3), api.Page{From: tok, Code: api.ErrState}) || !state.Same(s.Data(), api.State{}) || s.Free() != 0 {
			t.Errorf("a nil server: %d", i)
		}
	}
}

// P40.3, P40.4
func TestFalls(t *testing.T) {
	r := sample.New(40)
	falls, renewed, full := 0, 0, 0
	for round := range 120 {
		d, s := open(t, 12+r.Below(60))
		x := core.New()
		for i := range 60 {
			old := x.Data()
			c := r.Cmd(max(old.Book.Next-1, 1), 9+i)
			if c.Req > 0 && r.Below(3) > 0 {
				c.Req = old.Rows[c.Dev].Last + 1
			}
			if r.Below(4) == 0 {
				d.Fuse(r.Below(7))
			}
			free := s.Free()
			a, err := s.Step(c)
			if s.Free() > free {
				renewed++
			}
			fresh, _ := core.Load(old)
			want, _ := fresh.Do(c)
			if err == api.OK && a.Code == api.ErrFull && state.Same(s.Data(), old) {
				full++ // there is no room, whatever the core would answer
			} else if err == api.OK {
				x = fresh
				if !ledger.Same(a, want) || !state.Same(s.Data(), x.Data()) {
					t.Fatalf("%v is answered %v, want %v", c, a, want)
				}
			}
			if !d.Dead() && err == api.OK && r.Below(20) > 0 {
				continue
			}
			falls++
			var keep []int
			for range d.Waiting() {
				keep = append(keep, r.Below(3))
			}
			d.Crash(keep)
			look, e := server.Look(d)
			isNew := err != api.OK && state.Same(look, fresh.Data())
			if e != api.OK || !isNew && !state.Same(look, x.Data()) {
				t.Fatalf("round %d: behind a fall lies %v, %d", round, look, e)
			}
			if r.Below(2) == 0 {
				d.Fuse(r.Below(3))
			}
			s, e = server.Open(d)
			if e != api.OK {
				d.Crash([]int{r.Below(3), r.Below(3)})
				s, e = server.Open(d)
			}
			if e != api.OK || !state.Same(s.Data(), look) {
				t.Fatalf("opened, the server has %v, %d", s.Data(), e)
			}
			d.Fuse(-1)
			x, _ = core.Load(look)
		}
	}
	if falls < 200 || renewed < 20 || full < 20 {
		t.Errorf("too few falls, renewals, or steps without room: %d, %d, %d", falls, renewed, full)
	}
}
