package msg_test

import (
	"slices"
	"strings"
	"testing"

	"offprint/api"
	"offprint/msg"
	"offprint/sample"
)

var (
	not3  = []api.Node{{Op: api.Not}, {Op: api.Label, N: 3}}
	seven = api.Patch{Mask: 1, F: [8]api.Value{{Kind: api.Num, N: 7}}}
	tok   = api.Token{Dev: 1, Epoch: 4, Seq: 3}
)

// some are messages that may be, in new memory, with their bytes.
func some() ([]msg.Msg, []string) {
	return []msg.Msg{
		{Kind: msg.Ask, Cmd: api.Cmd{Kind: api.DoLeave, Dev: 2, Req: 7}}, {Kind: msg.Ask, Cmd: api.Cmd{Kind: api.DoPut, Req: 1, ID: 2, Base: 3, Patch: seven}}, {Kind: msg.Ask, Cmd: api.Cmd{Kind: api.DoSub, Req: 1, Filter: slices.Clone(not3), Mask: 5}},
		{Kind: msg.Pull, Token: tok, Size: 16}, {Kind: msg.Pull, Token: tok, Size: 1}, {Kind: msg.Done, Reply: api.Reply{Kind: api.DoPut, Dev: 1, Req: 3, Code: api.ErrStale}}, {Kind: msg.News, Page: api.Page{From: tok, To: tok, Items: []api.Item{{Kind: api.Out, Card: api.Card{ID: 5}}}}}, {Kind: msg.News, Page: api.Page{Code: api.ErrNone, From: tok}}, {Kind: msg.Fault, Code: api.ErrForm}, {Kind: msg.Fault, Code: api.ErrBad}, {Kind: msg.Fault, Code: api.ErrArg},
	}, []string{
		"\x01\x04\x02\x07", "\x01\x02\x00\x01\x02\x03\x01\x01\x07", "\x01\x03\x00\x01\x02\x0a\x03\x03\x05", "\x02\x01\x04\x03\x00\x10", "\x02\x01\x04\x03\x00\x01", "\x03\x02\x01\x03\x0c", "\x04\x00\x01\x04\x03\x00\x00\x01\x04\x03\x00\x01\x02\x05", "\x04\x06\x01\x04\x03\x00", "\x05\x03", "\x05\x10", "\x05\x01",
	}
}

// P41.1, P41.2
func TestMessages(t *testing.T) {
	may, wire := some()
	for i, m := range may {
		if !msg.Check(m) {
			t.Errorf("Check(%v) is false", m)
		}
		if got, err := msg.Encode(m); err != api.OK || got != wire[i] {
			t.Errorf("Encode(%v) = %q, %d", m, got, err)
		}
		if got, err := msg.Decode(wire[i]); err != api.OK || !msg.Same(got, m) {
			t.Errorf("Decode(%q) = %v, %d", wire[i], got, err)
		}
		if got, err := msg.Decode(wire[i] + "\x00"); err != api.ErrForm || !msg.Same(got, msg.Msg{}) {
			t.Errorf("Decode of %q and more = %v, %d", wire[i], got, err)
		}
		for n := range wire[i] {
			if got, err := msg.Decode(wire[i][:n]); err != api.ErrShort || !msg.Same(got, msg.Msg{}) {
				t.Errorf("Decode(%q) = %v, %d", wire[i][:n], got, err)
			}
		}
		for j, other := range may {
			if msg.Same(m, other) != (i == j) {
				t.Errorf("Same of %d and %d", i, j)
			}
		}
	}
}

// P41.1
func TestKinds(t *testing.T) {
	if msg.Ask != 1 || msg.Pull != 2 || msg.Done != 3 || msg.News != 4 || msg.Fault != 5 {
		t.Errorf("the kinds of messages")
	}
}

// P41.1
func TestWhatMayNotBe(t *testing.T) {
	may, _ := some()
	wrong := []msg.Msg{
		{}, {Kind: -1}, {Kind: 6}, {Kind: msg.Ask}, {Kind: msg.Ask, Cmd: api.Cmd{Kind: api.DoTrim}}, {Kind: msg.Ask, Cmd: api.Cmd{Kind: api.DoEdit, Edit: api.Edit{Kind: api.Open}}}, {Kind: msg.Ask, Cmd: api.Cmd{Kind: api.DoLeave, Dev: 6, Req: 1}}, {Kind: msg.Pull, Size: 1}, {Kind: msg.Pull, Token: tok}, {Kind: msg.Pull, Token: tok, Size: -1}, {Kind: msg.Pull, Token: tok, Size: 17},
		{Kind: msg.Done}, {Kind: msg.Done, Reply: api.Reply{Kind: api.DoEdit, Seq: 1}}, {Kind: msg.News}, {Kind: msg.News, Page: api.Page{From: tok}}, {Kind: msg.Fault}, {Kind: msg.Fault, Code: 17}, {Kind: msg.Fault, Code: -1},
	}
	for _, m := range may {
		for i, f := range []func(m *msg.Msg){
			func(m *msg.Msg) { m.Kind = 6 }, func(m *msg.Msg) { m.Size++ }, func(m *msg.Msg) { m.Cmd.Dev++ }, func(m *msg.Msg) { m.Cmd.Filter = append(slices.Clone(m.Cmd.Filter), api.Node{Op: api.All}) }, func(m *msg.Msg) { m.Token.Epoch++ }, func(m *msg.Msg) { m.Reply.Req++ }, func(m *msg.Msg) { m.Page.From.Seq++ }, func(m *msg.Msg) { m.Code++ },
		} {
			x := m
			if f(&x); msg.Same(x, m) || msg.Same(m, x) {
				t.Errorf("Same does not see the change %d of %v", i, m)
			}
			own := map[int][]int{msg.Ask: {2, 3}, msg.Pull: {1, 4}, msg.Done: {5}, msg.News: {6}, msg.Fault: {7}}
			if !slices.Contains(own[m.Kind], i) {
				wrong = append(wrong, x)
			}
		}
	}
	for _, m := range wrong {
		if got, err := msg.Encode(m); msg.Check(m) || got != "" || err != api.ErrArg {
			t.Errorf("Encode(%v) = %q, %d", m, got, err)
		}
	}
}

// P41.2
func TestErrors(t *testing.T) {
	for s, want := range map[string]api.Errno{
		"": api.ErrShort, "\x00": api.ErrForm, "\x00\x01": api.ErrForm, "\x06": api.ErrLong, "\x80\x00": api.ErrForm, "\x01\x00": api.ErrForm, "\x01\x06": api.ErrLong, "\x01\x05\x00": api.ErrForm, "\x01\x01\x04\x02": api.ErrForm, "\x01\x01\x04": api.ErrShort, "\x01\x04\x06\x01": api.ErrLong, "\x01\x04\x02\x00": api.ErrForm,
		"\x02\x06\x04\x03\x00\x01": api.ErrLong, "\x02\x01\x00\x03\x00\x01": api.ErrForm, "\x02\x01\x04\x03\x00\x00": api.ErrForm, "\x02\x01\x04\x03\x00\x11": api.ErrLong, "\x03\x01\x01\x03\x0c": api.ErrForm, "\x03\x05\x01\x03\x0c": api.ErrLong, "\x04\x11": api.ErrLong, "\x04\x06\x01\x00\x03\x00": api.ErrForm, "\x05\x00": api.ErrForm, "\x05\x11": api.ErrLong, "\x05\x00\x00": api.ErrForm, "\x01\x05\x00\x00": api.ErrForm,
		strings.Repeat("\x05", api.MaxMsg+1): api.ErrLong, strings.Repeat("\x05", api.MaxMsg): api.ErrForm, strings.Repeat("\x00", api.MaxMsg+1): api.ErrLong,
	} {
		if got, err := msg.Decode(s); err != want || !msg.Same(got, msg.Msg{}) {
			t.Errorf("Decode(%.20q) = %v, %d; want %d", s, got, err, want)
		}
	}
}

// P41.1: the longest page is still a message.
func TestLongest(t *testing.T) {
	c := api.Card{Ver: api.MaxNum, Labels: 1<<16 - 1}
	for i := range c.F {
		c.F[i] = api.Value{Kind: api.Text, S: strings.Repeat("x", api.MaxText)}
	}
	p := api.Page{From: tok, To: tok}
	for i := range api.MaxPage {
		c.ID = api.MaxID - 100 + i
		p.Items = append(p.Items, api.Item{Kind: api.In, Card: c})
	}
	m := msg.Msg{Kind: msg.News, Page: p}
	s, err := msg.Encode(m)
	if got, e := msg.Decode(s); err != api.OK || e != api.OK || !msg.Same(got, m) || len(s) > api.MaxMsg {
		t.Errorf("Encode of the longest page: %d bytes, %d", len(s), err)
	}
}

// P41.3
func TestAnyBytes(t *testing.T) {
	_, wire := some()
	s := sample.New(41)
	read := 0
	for range 60000 {
		b := []byte(wire[s.Below(len(wire))])
		for range 1 + s.Below(3) {
			b[s.Below(len(b))] = byte(s.Below(10))
		}
		if m, err := msg.Decode(string(b)); err == api.OK {
			read++
			if again, err := msg.Encode(m); !msg.Check(m) || err != api.OK || again != string(b) {
				t.Fatalf("%q is decoded as %v", b, m)
			}
		} else if !msg.Same(m, msg.Msg{}) {
			t.Fatalf("a message beside an error")
		}
	}
	if read < 1000 {
		t.Errorf("too few were read: %d", read)
	}
}
