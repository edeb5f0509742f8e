package porter_test

import (
	"strings"
	"testing"

	"offprint/api"
	"offprint/disk"
	"offprint/ledger"
	"offprint/msg"
	"offprint/porter"
	"offprint/pull"
	"offprint/sample"
	"offprint/server"
	"offprint/state"
)

var (
	all   = []api.Node{{Op: api.All}}
	seven = api.Patch{Mask: 1, F: [8]api.Value{{Kind: api.Num, N: 7}}}
	tok   = api.Token{Dev: 3, Epoch: 1, Seq: 1}
)

func open() (*disk.Disk, *server.Server) {
	d := disk.New(60)
	server.Format(d)
	s, _ := server.Open(d)
	s.Step(api.Cmd{Kind: api.DoEdit, Edit: api.Edit{Kind: api.Create, Patch: seven}})
	return d, s
}

func bytes(m msg.Msg) string {
	s, _ := msg.Encode(m)
	return s
}

func ask(c api.Cmd) string { return bytes(msg.Msg{Kind: msg.Ask, Cmd: c}) }
func sub(req int) api.Cmd {
	return api.Cmd{Kind: api.DoSub, Dev: 3, Req: req, Filter: all, Mask: 1}
}

// P42.1
func TestFault(t *testing.T) {
	for e := api.Errno(-3); e < 20; e++ {
		want := ""
		if e >= api.ErrArg && e <= api.ErrBad {
			want = "\x05" + string(rune(e))
		}
		if got := porter.Fault(e); got != want {
			t.Errorf("Fault(%d) = %q", e, got)
		}
	}
}

// P42.2, P42.3
func TestHandle(t *testing.T) {
	_, s := open()
	handle := func(in string) msg.Msg {
		t.Helper()
		out, err := porter.Handle(s, in)
		m, err2 := msg.Decode(out)
		if err != api.OK || err2 != api.OK {
			t.Errorf("Handle(%q) = %q, %d", in, out, err)
		}
		return m
	}
	before := s.Data()
	for in, want := range map[string]api.Errno{
		"\x00": api.ErrForm, "": api.ErrShort, "\x06": api.ErrLong, "\x05\x03\x00": api.ErrForm, strings.Repeat("x", api.MaxMsg+1): api.ErrLong, "\x01\x05\x00": api.ErrForm, "\x05\x03": api.ErrArg,
		bytes(msg.Msg{Kind: msg.Done, Reply: api.Reply{Kind: api.DoLeave, Req: 1}}): api.ErrArg, bytes(msg.Msg{Kind: msg.News, Page: api.Page{Code: api.ErrNone, From: tok}}): api.ErrArg,
	} {
		if m := handle(in); !msg.Same(m, msg.Msg{Kind: msg.Fault, Code: want}) {
			t.Errorf("Handle(%.20q) = %v", in, m)
		}
	}
	if !state.Same(s.Data(), before) {
		t.Errorf("what is no message of a device changed the server")
	}
	want := api.Reply{Kind: api.DoSub, Dev: 3, Req: 1, Seq: 1, Epoch: 1, Filter: all, Mask: 1}
	for range 2 {
		if m := handle(ask(sub(1))); m.Kind != msg.Done || !ledger.Same(m.Reply, want) {
			t.Errorf("Handle of an Ask = %v", m)
		}
	}
	if m := handle(ask(api.Cmd{Kind: api.DoPut, Dev: 3, Req: 2, ID: 1, Base: 1, Patch: seven})); m.Kind != msg.Done || m.Reply.Ver != 2 {
		t.Errorf("Handle of a write = %v", m)
	}
	if m := handle(ask(sub(1))); !ledger.Same(m.Reply, api.Reply{Kind: api.DoSub, Dev: 3, Req: 1, Code: api.ErrOld}) {
		t.Errorf("Handle of an old request = %v", m)
	}
	for _, size := range []int{1, 16} {
		if m := handle(bytes(msg.Msg{Kind: msg.Pull, Token: tok, Size: size})); m.Kind != msg.News || !pull.Same(m.Page, s.Pull(tok, size)) || len(m.Page.Items) != 1 {
			t.Errorf("Handle of a Pull = %v", m)
		}
	}
	other := tok
	other.Dev = 1
	if m := handle(bytes(msg.Msg{Kind: msg.Pull, Token: other, Size: 1})); !pull.Same(m.Page, api.Page{Code: api.ErrNone, From: other}) {
		t.Errorf("Handle of a Pull without a subscription = %v", m)
	}
}

// P42.2
func TestWithoutPower(t *testing.T) {
	d, s := open()
	d.Fuse(1)
	if out, err := porter.Handle(s, ask(sub(1))); out != "" || err != api.ErrPower {
		t.Errorf("Handle when the power goes = %q, %d", out, err)
	}
	for _, in := range []string{ask(sub(1)), "\x00", bytes(msg.Msg{Kind: msg.Pull, Token: tok, Size: 1})} {
		if out, err := porter.Handle(s, in); out != "" || err != api.ErrState {
			t.Errorf("Handle of a server that is gone = %q, %d", out, err)
		}
		if out, err := porter.Handle(nil, in); out != "" || err != api.ErrState {
			t.Errorf("Handle of no server = %q, %d", out, err)
		}
	}
}

// P42.3
func TestAnyBytes(t *testing.T) {
	_, s := open()
	r := sample.New(42)
	faults := 0
	for range 5000 {
		before, in := s.Data(), string(r.Bytes(r.Below(12)))
		out, err := porter.Handle(s, in)
		m, err2 := msg.Decode(out)
		if err != api.OK || err2 != api.OK {
			t.Fatalf("Handle(%q) = %q, %d", in, out, err)
		}
		if _, wrong := msg.Decode(in); wrong != api.OK {
			faults++
			if m.Kind != msg.Fault || m.Code != wrong || !state.Same(before, s.Data()) {
				t.Fatalf("Handle(%q) = %v", in, m)
			}
		}
	}
	if faults < 1000 {
		t.Errorf("too few faults: %d", faults)
	}
}
