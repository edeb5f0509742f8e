package device_test

import (
	"math"
	"slices"
	"strings"
	"testing"

	"offprint/api"
	"offprint/card"
	"offprint/device"
	"offprint/msg"
	"offprint/queue"
	"offprint/sample"
)

var (
	all    = []api.Node{{Op: api.All}}
	label1 = []api.Node{{Op: api.Label, N: 1}}
)

func num(f, n int) api.Patch {
	p := api.Patch{Mask: 1 << f}
	p.F[f] = api.Value{Kind: api.Num, N: n}
	return p
}
func c(id, ver int) api.Card { return api.Card{ID: id, Ver: ver} }
func bytes(m msg.Msg) string {
	s, _ := msg.Encode(m)
	return s
}
func ask(c api.Cmd) string    { return bytes(msg.Msg{Kind: msg.Ask, Cmd: c}) }
func done(a api.Reply) string { return bytes(msg.Msg{Kind: msg.Done, Reply: a}) }
func news(p api.Page) string  { return bytes(msg.Msg{Kind: msg.News, Page: p}) }
func pull(t api.Token, n int) string {
	return bytes(msg.Msg{Kind: msg.Pull, Token: t, Size: n})
}
func tok(epoch, seq, cursor int) api.Token {
	return api.Token{Dev: 2, Epoch: epoch, Seq: seq, Cursor: cursor}
}
func subscribed(req, epoch, seq int) string {
	return done(api.Reply{Kind: api.DoSub, Dev: 2, Req: req, Seq: seq, Epoch: epoch, Filter: label1, Mask: 7})
}

// on is a device that is on, with three cards of the version 4.
func on(t *testing.T) *device.Device {
	t.Helper()
	d := device.New(2, 3)
	d.Subscribe(label1, 7)
	d.Next()
	page := api.Page{From: tok(1, 5, 0), To: tok(1, 5, api.MaxID), Items: []api.Item{{Kind: api.In, Card: c(1, 4)}, {Kind: api.In, Card: c(2, 4)}, {Kind: api.In, Card: c(3, 4)}}}
	if !d.Hear(subscribed(1, 1, 5)) || !d.Hear(news(page)) || d.Token() != page.To || d.Busy() {
		t.Fatalf("the device is not on")
	}
	return d
}

func reports(t *testing.T, d *device.Device, want ...device.Report) {
	t.Helper()
	if got := d.Reports(); !slices.Equal(got, want) {
		t.Errorf("Reports = %v, want %v", got, want)
	}
}

// P45.1
func TestNewAndWants(t *testing.T) {
	for _, x := range [][2]int{{-1, 1}, {6, 1}, {0, 0}, {0, -1}, {0, 17}, {math.MaxInt, 1}, {1, math.MinInt}} {
		if device.New(x[0], x[1]) != nil {
			t.Errorf("New(%v) is a device", x)
		}
	}
	d := device.New(5, 16)
	if l, m := d.Filter(); d.Busy() || d.Next() != "" || d.Token() != (api.Token{}) || len(d.Cards()) != 0 || len(d.Shown()) != 0 || len(l) != 0 || m != 0 || len(d.Queue()) != 0 || len(d.Reports()) != 0 {
		t.Errorf("a new device has something")
	}
	if d.Subscribe(nil, 1) != api.ErrArg || d.Subscribe(all, 512) != api.ErrArg || d.Subscribe([]api.Node{{Op: api.Not}}, 1) != api.ErrArg || d.Busy() {
		t.Errorf("Subscribe of what may not be")
	}
	l := slices.Clone(label1)
	if d.Subscribe(all, 0) != api.OK || d.Leave() != api.OK || d.Subscribe(l, 5) != api.OK || !d.Busy() {
		t.Errorf("Subscribe and Leave")
	}
	l[0].N = 9
	if got := d.Next(); got != ask(api.Cmd{Kind: api.DoSub, Dev: 5, Req: 1, Filter: label1, Mask: 5}) {
		t.Errorf("Next = %q", got)
	}
	d = device.New(0, 1)
	d.Subscribe(all, 1)
	d.Leave()
	if got := d.Next(); got != ask(api.Cmd{Kind: api.DoLeave, Req: 1}) {
		t.Errorf("Next = %q", got)
	}
}

// P45.2, P45.5
func TestNext(t *testing.T) {
	d := device.New(2, 3)
	d.Subscribe(label1, 7)
	want := ask(api.Cmd{Kind: api.DoSub, Dev: 2, Req: 1, Filter: label1, Mask: 7})
	for range 3 {
		if got := d.Next(); got != want || !d.Busy() {
			t.Errorf("Next = %q", got)
		}
	}
	d.Subscribe(all, 1)
	if got := d.Next(); got != want {
		t.Errorf("Next while a request is out = %q", got)
	}
	d.Hear(subscribed(1, 1, 5))
	if got := d.Next(); got != ask(api.Cmd{Kind: api.DoSub, Dev: 2, Req: 2, Filter: all, Mask: 1}) {
		t.Errorf("Next behind that = %q", got)
	}
	d = on(t)
	if got := d.Next(); got != pull(tok(1, 5, api.MaxID), 3) {
		t.Errorf("Next of a device that is on = %q", got)
	}
	d.Edit(2, num(0, 1))
	d.Edit(1, num(0, 2))
	d.Edit(2, num(1, 3))
	put := func(req, id, base int, p api.Patch) string {
		return ask(api.Cmd{Kind: api.DoPut, Dev: 2, Req: req, ID: id, Base: base, Patch: p})
	}
	if got := d.Next(); got != put(2, 2, 4, num(0, 1)) || d.Next() != got {
		t.Errorf("Next of a write = %q", got)
	}
	d.Leave()
	if got := d.Next(); got != put(2, 2, 4, num(0, 1)) {
		t.Errorf("Next of a write while it leaves = %q", got)
	}
	d.Hear(done(api.Reply{Kind: api.DoPut, Dev: 2, Req: 2, Seq: 6, ID: 2, Ver: 5}))
	if got := d.Next(); got != ask(api.Cmd{Kind: api.DoLeave, Dev: 2, Req: 3}) {
		t.Errorf("Next of the end of a subscription = %q", got)
	}
	d = on(t)
	d.Subscribe(all, 1)
	d.Edit(1, num(0, 2))
	if got := d.Next(); got != ask(api.Cmd{Kind: api.DoSub, Dev: 2, Req: 2, Filter: all, Mask: 1}) {
		t.Errorf("Next of a write and a subscription = %q", got)
	}
}

// P45.1
func TestEdit(t *testing.T) {
	d := device.New(2, 3)
	if d.Edit(1, num(0, 1)) != api.ErrState {
		t.Errorf("Edit of a device that is off")
	}
	d = on(t)
	for _, x := range []struct {
		id   int
		p    api.Patch
		want api.Errno
	}{{9, num(0, 1), api.ErrNone}, {9, num(7, 1), api.ErrNone}, {1, num(3, 1), api.ErrMask}, {1, api.Patch{Mask: api.LabelBit}, api.ErrMask}, {1, api.Patch{Mask: 512}, api.ErrMask}, {1, api.Patch{}, api.ErrMask}, {1, api.Patch{Mask: 1, Labels: 1}, api.ErrArg}, {1, num(0, -1), api.ErrArg}, {1, num(2, 1), api.OK}} {
		if got := d.Edit(x.id, x.p); got != x.want {
			t.Errorf("Edit(%d, %v) = %d", x.id, x.p, got)
		}
	}
	if !d.Busy() {
		t.Errorf("a device with a write is not busy")
	}
	for d.Edit(3, num(1, 1)) == api.OK {
	}
	if d.Edit(3, num(5, 1)) != api.ErrMask || d.Edit(9, num(1, 1)) != api.ErrNone || d.Edit(3, num(1, -1)) != api.ErrArg {
		t.Errorf("Edit of what may not be, of a device whose queue is full")
	}
	if d.Edit(3, num(1, 1)) != api.ErrFull || len(d.Queue()) != api.MaxQueue || d.Queue()[11] != (queue.Write{ID: 3, Base: 14, Patch: num(1, 1)}) {
		t.Errorf("Edit of one too many: %v", d.Queue())
	}
	if got := d.Shown(); got[0] != queue.Show(c(1, 4), d.Queue()) || got[0].F[2] != num(2, 1).F[2] || got[0].Ver != 4 || d.Cards()[0] != c(1, 4) || got[1] != c(2, 4) {
		t.Errorf("Shown = %v", got)
	}
	d.Queue()[0].ID = 99
	d.Cards()[0].ID = 99
	mine, _ := d.Filter()
	mine[0].N = 99
	if l, _ := d.Filter(); d.Queue()[0].ID != 1 || d.Cards()[0].ID != 1 || !slices.Equal(l, label1) {
		t.Errorf("a device shares its lists")
	}
}

// P45.3
func TestHearWrites(t *testing.T) {
	put := func(req int, code api.Errno) string {
		a := api.Reply{Kind: api.DoPut, Dev: 2, Req: req, Code: code}
		if code == api.OK {
			a.ID, a.Ver, a.Seq = 1, 5, 6
		}
		return done(a)
	}
	d := on(t)
	d.Edit(1, num(0, 1))
	d.Edit(2, num(0, 2))
	d.Edit(1, num(0, 3))
	d.Edit(1, num(0, 4))
	if d.Hear(put(2, api.OK)) {
		t.Errorf("a Done ahead of its request is of use")
	}
	d.Next()
	other := done(api.Reply{Kind: api.DoPut, Dev: 1, Req: 2, Seq: 6, ID: 1, Ver: 5})
	if d.Hear(put(1, api.OK)) || d.Hear(put(3, api.OK)) || d.Hear(other) || len(d.Queue()) != 4 {
		t.Errorf("a Done of another request is of use")
	}
	if !d.Hear(put(2, api.OK)) || len(d.Queue()) != 3 || d.Queue()[0].ID != 2 || d.Hear(put(2, api.OK)) {
		t.Errorf("a Done with OK: %v", d.Queue())
	}
	d.Next()
	if !d.Hear(put(3, api.ErrGone)) || len(d.Queue()) != 2 {
		t.Errorf("a Done with ErrGone: %v", d.Queue())
	}
	reports(t, d, device.Report{Req: 3, ID: 2, Code: api.ErrGone})
	d.Next()
	if !d.Hear(put(4, api.ErrStale)) || len(d.Queue()) != 0 || d.Busy() {
		t.Errorf("a Done with ErrStale: %v", d.Queue())
	}
	all := []device.Report{{Req: 3, ID: 2, Code: api.ErrGone}, {Req: 4, ID: 1, Code: api.ErrStale}, {Req: 0, ID: 1, Code: api.ErrStale}}
	reports(t, d, all...)
	d.Edit(1, num(0, 1))
	d.Edit(1, num(0, 2))
	d.Next()
	if !d.Hear(done(api.Reply{Kind: api.DoLeave, Dev: 2, Req: 5})) || d.Token() == (api.Token{}) {
		t.Errorf("a Done of another kind")
	}
	reports(t, d, append(all, device.Report{Req: 5, ID: 1, Code: api.ErrOld}, device.Report{ID: 1, Code: api.ErrStale})...)
	d.Reports()[0].Req = 99
	if d.Reports()[0].Req != 3 {
		t.Errorf("Reports are shared")
	}
}

// P45.3
func TestHearSubscriptions(t *testing.T) {
	d := on(t)
	d.Edit(1, num(0, 1))
	d.Subscribe(all, 1)
	d.Next()
	if !d.Hear(done(api.Reply{Kind: api.DoSub, Dev: 2, Req: 2, Seq: 9, Epoch: 4, Filter: all, Mask: 3})) {
		t.Errorf("a Done is of no use")
	}
	if l, m := d.Filter(); d.Token() != tok(4, 9, 0) || len(d.Cards()) != 0 || !slices.Equal(l, all) || m != 3 || len(d.Queue()) != 1 {
		t.Errorf("behind a Done the filter is %v, %b, the token %v", l, m, d.Token())
	}
	d = on(t)
	d.Subscribe(all, 1)
	d.Next()
	d.Hear(done(api.Reply{Kind: api.DoSub, Dev: 2, Req: 2, Seq: 9, Epoch: 1, Filter: label1, Mask: 7}))
	if d.Token() != tok(1, 5, api.MaxID) || len(d.Cards()) != 3 {
		t.Errorf("a Done of the same epoch begins anew")
	}
	for _, x := range []struct {
		a    api.Reply
		code api.Errno
	}{{api.Reply{Kind: api.DoSub, Code: api.ErrFull}, api.ErrFull}, {api.Reply{Kind: api.DoSub, Code: api.ErrNone}, api.ErrNone}, {api.Reply{Kind: api.DoLeave}, api.ErrOld}, {api.Reply{Kind: api.DoPut, ID: 1, Ver: 1}, api.ErrOld}} {
		d = on(t)
		d.Subscribe(all, 1)
		d.Next()
		x.a.Dev, x.a.Req = 2, 2
		if !d.Hear(done(x.a)) || d.Token() != tok(1, 5, api.MaxID) || d.Busy() {
			t.Errorf("a Done %v", x.a)
		}
		reports(t, d, device.Report{Req: 2, Code: x.code})
	}
}

// P45.3
func TestHearLeave(t *testing.T) {
	for _, x := range []struct {
		a     api.Reply
		stops bool
		want  []device.Report
	}{
		{api.Reply{Kind: api.DoLeave}, true, []device.Report{{ID: 1, Code: api.ErrState}, {ID: 2, Code: api.ErrState}}}, {api.Reply{Kind: api.DoLeave, Code: api.ErrNone}, true, []device.Report{{Req: 2, Code: api.ErrNone}, {ID: 1, Code: api.ErrState}, {ID: 2, Code: api.ErrState}}}, {api.Reply{Kind: api.DoLeave, Code: api.ErrFull}, false, []device.Report{{Req: 2, Code: api.ErrFull}}}, {api.Reply{Kind: api.DoPut, Code: api.ErrNone}, false, []device.Report{{Req: 2, Code: api.ErrOld}}},
	} {
		d := on(t)
		d.Leave()
		d.Edit(1, num(0, 1))
		d.Edit(2, num(0, 1))
		d.Next()
		x.a.Dev, x.a.Req = 2, 2
		if !d.Hear(done(x.a)) {
			t.Errorf("a Done is of no use")
		}
		l, m := d.Filter()
		if stopped := d.Token() == (api.Token{}) && len(d.Cards()) == 0 && len(l) == 0 && m == 0 && len(d.Queue()) == 0 && !d.Busy() && d.Next() == ""; stopped != x.stops {
			t.Errorf("behind %v it has stopped: %v", x.a, stopped)
		}
		reports(t, d, x.want...)
	}
}

// P45.3
func TestHearNews(t *testing.T) {
	now := tok(1, 5, api.MaxID)
	d := on(t)
	other := now
	other.Seq = 4
	for i, in := range []string{
		"", "\x00", "\x05\x03", strings.Repeat("x", 5000), pull(now, 3), ask(api.Cmd{Kind: api.DoLeave, Dev: 2, Req: 1}), news(api.Page{Code: api.ErrNone, From: other}), news(api.Page{Code: api.ErrState, From: now}), news(api.Page{Reset: true, From: other, To: tok(2, 5, 0)}), news(api.Page{From: other, To: now}), news(api.Page{From: now, To: now, Items: []api.Item{{Kind: api.In, Card: c(1, 1)}}}),
	} {
		if d.Hear(in) || d.Token() != now || len(d.Cards()) != 3 || d.Busy() {
			t.Errorf("what is of no use, %d, is of use", i)
		}
	}
	if !d.Hear(news(api.Page{From: now, To: tok(1, 7, api.MaxID), Items: []api.Item{{Kind: api.Out, Card: api.Card{ID: 2}}}})) || !card.Same(d.Cards(), []api.Card{c(1, 4), c(3, 4)}) || d.Token() != tok(1, 7, api.MaxID) {
		t.Errorf("News: %v", d.Cards())
	}
	if !d.Hear(news(api.Page{Reset: true, From: tok(1, 7, api.MaxID), To: tok(1, 9, 0)})) || d.Token() != tok(1, 9, 0) || len(d.Cards()) != 0 || d.Busy() {
		t.Errorf("a Reset of the same epoch: %v", d.Token())
	}
	d = on(t)
	d.Edit(1, num(0, 1))
	reset := news(api.Page{Reset: true, From: now, To: tok(3, 9, 0)})
	if !d.Hear(reset) || d.Token() != now || len(d.Cards()) != 3 || d.Next() != ask(api.Cmd{Kind: api.DoSub, Dev: 2, Req: 2, Filter: label1, Mask: 7}) {
		t.Errorf("a Reset of another epoch")
	}
	d = on(t)
	d.Leave()
	d.Hear(reset)
	if d.Next() != ask(api.Cmd{Kind: api.DoLeave, Dev: 2, Req: 2}) {
		t.Errorf("a Reset of another epoch, while it leaves")
	}
}

// P45.3: the queue is given up, but for a write whose request is out.
func TestStop(t *testing.T) {
	none := news(api.Page{Code: api.ErrNone, From: tok(1, 5, api.MaxID)})
	d := on(t)
	d.Edit(1, num(0, 1))
	d.Edit(2, num(0, 2))
	if !d.Hear(none) || d.Token() != (api.Token{}) || len(d.Queue()) != 0 || d.Hear(none) {
		t.Errorf("it has not stopped")
	}
	reports(t, d, device.Report{ID: 1, Code: api.ErrState}, device.Report{ID: 2, Code: api.ErrState})
	d = on(t)
	d.Edit(1, num(0, 1))
	d.Edit(1, num(0, 2))
	said := d.Next()
	if !d.Hear(none) || len(d.Queue()) != 1 || d.Next() != said || !d.Busy() || d.Edit(1, num(0, 1)) != api.ErrState {
		t.Errorf("the write whose request is out is given up")
	}
	reports(t, d, device.Report{ID: 1, Code: api.ErrState})
	if !d.Hear(done(api.Reply{Kind: api.DoPut, Dev: 2, Req: 2, Code: api.ErrState})) || d.Busy() || d.Next() != "" {
		t.Errorf("the answer behind that")
	}
	reports(t, d, device.Report{ID: 1, Code: api.ErrState}, device.Report{Req: 2, ID: 1, Code: api.ErrState})
	d = on(t)
	d.Edit(1, num(0, 1))
	d.Subscribe(all, 1)
	d.Next()
	if !d.Hear(none) || len(d.Queue()) != 0 || !d.Busy() {
		t.Errorf("a write is kept while a subscription is out")
	}
}

// P45.4
func TestNilDevice(t *testing.T) {
	var d *device.Device
	l, m := d.Filter()
	if d.Subscribe(all, 1) != api.ErrState || d.Leave() != api.ErrState || d.Edit(1, num(0, 1)) != api.ErrState || d.Next() != "" || d.Hear(subscribed(1, 1, 1)) || d.Token() != (api.Token{}) || d.Cards() != nil || d.Shown() != nil || l != nil || m != 0 || d.Queue() != nil || d.Reports() != nil || d.Busy() {
		t.Errorf("a nil device")
	}
	if d.Subscribe(nil, 1) != api.ErrState {
		t.Errorf("Subscribe of a nil device")
	}
}

// P45.2: what may not be is not said.
func TestWhatMayNotBeSaid(t *testing.T) {
	d := device.New(2, 3)
	d.Subscribe(label1, 7)
	d.Next()
	d.Hear(subscribed(1, 1, 5))
	d.Hear(news(api.Page{From: tok(1, 5, 0), To: tok(1, 5, api.MaxID), Items: []api.Item{{Kind: api.In, Card: c(1, api.MaxNum)}}}))
	d.Edit(1, num(0, 1))
	d.Edit(1, num(0, 2))
	d.Next()
	d.Hear(done(api.Reply{Kind: api.DoPut, Dev: 2, Req: 2, Seq: 6, ID: 1, Ver: api.MaxNum}))
	if d.Next() != "" || !d.Busy() {
		t.Errorf("a write of a version above MaxNum is said")
	}
}

// P45.5, P45.6
func TestEachOnce(t *testing.T) {
	s := sample.New(45)
	for range 300 {
		d := on(t)
		took, wrote, reported := map[int]int{}, map[int]int{}, map[int]int{}
		epoch := 1
		for range 60 {
			switch s.Below(8) {
			case 0, 1:
				id := 1 + s.Below(3)
				if d.Edit(id, num(s.Below(3), s.Below(9))) == api.OK {
					took[id]++
				}
			case 2:
				d.Next()
			case 3, 4:
				m, _ := msg.Decode(d.Next())
				if again := d.Next(); again != bytes(m) {
					t.Fatalf("it says another thing: %q", again)
				}
				a := api.Reply{Kind: m.Cmd.Kind, Dev: 2, Req: m.Cmd.Req}
				if m.Kind != msg.Ask {
					continue
				}
				if s.Below(3) == 0 {
					a.Code = api.ErrStale
				} else if a.Kind == api.DoPut {
					a.ID, a.Ver = m.Cmd.ID, m.Cmd.Base+1
					wrote[m.Cmd.ID]++
				} else if a.Kind == api.DoSub {
					epoch++
					a.Epoch, a.Filter, a.Mask = epoch, m.Cmd.Filter, m.Cmd.Mask
				}
				d.Hear(done(a))
			case 5:
				d.Hear(news(api.Page{Code: api.ErrNone, From: d.Token()}))
				d.Subscribe(label1, 7)
			case 6:
				x := d.Token()
				x.Cursor = api.MaxID
				d.Hear(news(api.Page{From: d.Token(), To: x, Items: []api.Item{{Kind: api.In, Card: c(1, 4)}, {Kind: api.In, Card: c(2, 4)}, {Kind: api.In, Card: c(3, 4)}}}))
			case 7:
				if s.Below(4) == 0 {
					d.Leave()
				}
			}
			clear(reported)
			for _, r := range d.Reports() {
				reported[r.ID]++
			}
			for id := 1; id < 4; id++ {
				if took[id] != wrote[id]+reported[id]+queue.Waits(d.Queue(), id) {
					t.Fatalf("of the card %d %d were taken, %d done, %d reported, %d wait", id, took[id], wrote[id], reported[id], queue.Waits(d.Queue(), id))
				}
			}
		}
	}
}
