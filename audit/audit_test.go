package audit_test

import (
	"slices"
	"testing"

	"offprint/api"
	"offprint/audit"
	"offprint/card"
	"offprint/core"
	"offprint/msg"
	"offprint/sample"
	"offprint/script"
	"offprint/state"
	"offprint/world"
)

var (
	all    = []api.Node{{Op: api.All}}
	seven  = api.Patch{Mask: 1, F: [8]api.Value{{Kind: api.Num, N: 7}}}
	label1 = []api.Node{{Op: api.Label, N: 1}}
)

func tok(epoch, seq, cursor int) api.Token {
	return api.Token{Dev: 2, Epoch: epoch, Seq: seq, Cursor: cursor}
}
func c(id, ver int) api.Card {
	x := card.Fresh(id, seven)
	x.Ver = ver
	return x
}
func edit(e api.Edit) api.Cmd { return api.Cmd{Kind: api.DoEdit, Edit: e} }
func create() api.Cmd         { return edit(api.Edit{Kind: api.Create, Patch: seven}) }

// some is a state of many cards, to which the device 2 has subscribed at the step 20, and which is at the step 23.
func some() api.State {
	x := core.New()
	for range 20 {
		x.Do(create())
	}
	x.Do(api.Cmd{Kind: api.DoSub, Dev: 2, Req: 1, Filter: all, Mask: 1})
	x.Do(edit(api.Edit{Kind: api.Write, ID: 3, Patch: seven}))
	x.Do(edit(api.Edit{Kind: api.Delete, ID: 5}))
	x.Do(create())
	return x.Data()
}

// first are the cards from 1 to n, as they were at the step 20.
func first(n int) (l []api.Card) {
	for id := 1; id <= n; id++ {
		l = append(l, c(id, 1))
	}
	return l
}

// P50.1
func TestKinds(t *testing.T) {
	if audit.Off != 0 || audit.Lost != 1 || audit.Wrong != 2 || audit.Right != 3 {
		t.Errorf("the kinds of findings")
	}
}

// P50.1
func TestReplay(t *testing.T) {
	s := some()
	now := state.Cards(s, 2)
	old := slices.Clone(now)
	old[0].Ver = 9
	for i, x := range []struct {
		t     api.Token
		cards []api.Card
		want  audit.Finding
	}{
		{tok(1, 23, api.MaxID), now, audit.Finding{Kind: audit.Right, Cards: 20}}, {tok(1, 20, api.MaxID), first(20), audit.Finding{Kind: audit.Right, Behind: 1, Cards: 20}}, {tok(1, 20, 0), nil, audit.Finding{Kind: audit.Right, Behind: 2}}, {tok(1, 20, 2), first(2), audit.Finding{Kind: audit.Right, Behind: 2, Cards: 2}}, {tok(1, 23, 5), now[:4], audit.Finding{Kind: audit.Right, Behind: 1, Cards: 4}}, {tok(1, 23, 4), now[:4], audit.Finding{Kind: audit.Right, Behind: 1, Cards: 4}}, {tok(1, 23, 3), now[:3], audit.Finding{Kind: audit.Right, Behind: 2, Cards: 3}}, {tok(1, 20, 17), first(17), audit.Finding{Kind: audit.Right, Behind: 1, Cards: 17}}, {tok(1, 19, api.MaxID), first(20), audit.Finding{Kind: audit.Right, Behind: 3, Cards: 20}}, {tok(1, 99, 0), first(1), audit.Finding{Kind: audit.Right, Behind: 3, Cards: 1}},
		{tok(1, 23, api.MaxID), old, audit.Finding{Kind: audit.Wrong, Cards: 20}}, {tok(1, 23, api.MaxID), now[1:], audit.Finding{Kind: audit.Wrong, Cards: 19}}, {tok(1, 23, api.MaxID), append(slices.Clone(now), c(77, 1)), audit.Finding{Kind: audit.Wrong, Cards: 21}}, {tok(1, 20, api.MaxID), now, audit.Finding{Kind: audit.Wrong, Cards: 20}}, {tok(1, 20, 4), first(5), audit.Finding{Kind: audit.Wrong, Cards: 5}}, {tok(1, 23, 0), now, audit.Finding{Kind: audit.Wrong, Cards: 20}}, {tok(1, 20, 4), first(3), audit.Finding{Kind: audit.Wrong, Cards: 3}},
		{tok(2, 23, api.MaxID), now, audit.Finding{Kind: audit.Lost, Cards: 20}}, {tok(2, 99, 0), nil, audit.Finding{Kind: audit.Lost}}, {api.Token{Dev: 1, Epoch: 1, Seq: 20}, first(2), audit.Finding{Kind: audit.Lost, Cards: 2}},
	} {
		if got, ok := audit.Replay(s, x.t, x.cards); !ok || got != x.want {
			t.Errorf("Replay %d = %v, %v; want %v", i, got, ok, x.want)
		}
	}
	bad := some()
	bad.Rows[2].Epoch = 9
	for i, x := range []struct {
		s     api.State
		t     api.Token
		cards []api.Card
	}{
		{api.State{}, tok(1, 20, 0), nil}, {bad, tok(1, 20, 0), nil}, {s, api.Token{}, nil}, {s, tok(0, 20, 0), nil}, {s, tok(1, 20, api.MaxID+1), nil}, {s, api.Token{Dev: 6, Epoch: 1}, nil}, {s, tok(1, 20, 5), []api.Card{c(2, 1), c(1, 1)}}, {s, tok(1, 20, 5), []api.Card{c(1, 1), c(1, 1)}}, {s, tok(1, 20, 5), []api.Card{c(1, 0)}}, {s, tok(1, 20, 5), []api.Card{{}}}, {s, tok(2, 20, 5), []api.Card{c(api.MaxID, 1)}},
	} {
		if got, ok := audit.Replay(x.s, x.t, x.cards); ok || got != (audit.Finding{}) {
			t.Errorf("Replay of what may not be, %d = %v, %v", i, got, ok)
		}
	}
}

func act(kind, n, dev int) script.Op { return script.Op{Kind: kind, N: n, Dev: dev} }

// P50.1
func TestWorlds(t *testing.T) {
	w, _ := world.New(world.Conf{Devs: 3, Page: 2, Size: 100})
	change := script.Op{Kind: script.Change, Edit: api.Edit{Kind: api.Create, Patch: seven}}
	want := func(dev int) script.Op {
		return script.Op{Kind: script.Want, Dev: dev, Filter: all, Mask: 1}
	}
	give := func(dev int) []script.Op {
		return []script.Op{act(script.Say, 0, dev), act(script.Give, 0, 0), act(script.Give, 0, 0)}
	}
	w.Run([]script.Op{change, change, change, want(0), want(1)})
	w.Run(slices.Concat(give(0), give(0), give(1), give(1), give(1)))
	if got := audit.All(w); !slices.Equal(got, []audit.Finding{{Kind: audit.Right, Behind: 1, Cards: 2}, {Kind: audit.Right, Cards: 3}, {}}) {
		t.Errorf("All = %v", got)
	}
	text, _ := msg.Encode(msg.Msg{Kind: msg.Ask, Cmd: api.Cmd{Kind: api.DoLeave, Dev: 1, Req: 9}})
	w.Do(script.Op{Kind: script.Raw, Text: text})
	if got, ok := audit.Device(w, 1); !ok || got != (audit.Finding{Kind: audit.Lost, Cards: 3}) {
		t.Errorf("Device = %v, %v", got, ok)
	}
	if got, ok := audit.Device(w, 2); !ok || got != (audit.Finding{Kind: audit.Off}) {
		t.Errorf("Device that wants nothing = %v, %v", got, ok)
	}
	for _, dev := range []int{-1, 3, 6} {
		if got, ok := audit.Device(w, dev); ok || got != (audit.Finding{}) {
			t.Errorf("no device %d = %v, %v", dev, got, ok)
		}
	}
	if got, ok := audit.Device(nil, 0); ok || got != (audit.Finding{}) || audit.All(nil) != nil {
		t.Errorf("no world = %v, %v", got, ok)
	}
	six, _ := world.New(world.Conf{Devs: 6, Page: 2, Size: 9})
	if got := audit.All(six); !slices.Equal(got, make([]audit.Finding, 6)) {
		t.Errorf("All of six devices = %v", got)
	}
	w.Do(act(script.Fuse, 0, 0))
	w.Do(change)
	if got, ok := audit.Device(w, 0); ok || got != (audit.Finding{}) || len(audit.All(w)) != 0 {
		t.Errorf("a world that is Down = %v, %v", got, ok)
	}
}

// P50.2, P50.3
func TestNeverWrong(t *testing.T) {
	s := sample.New(50)
	kinds := map[int]int{}
	for range 16 {
		w, _ := world.New(world.Conf{Devs: 5, Page: 1 + s.Below(5), Size: 200})
		for range 200 {
			dev := s.Below(5)
			switch s.Below(12) {
			case 0, 1, 2:
				w.Do(script.Op{Kind: script.Change, Edit: s.Edit(max(w.State().Book.Next-1, 1))})
			case 3:
				if w.Device(dev).Token() == (api.Token{}) || s.Below(20) == 0 {
					w.Do(script.Op{Kind: script.Want, Dev: dev, Filter: [][]api.Node{all, label1, s.Fit()}[s.Below(3)], Mask: s.Mask() | 7})
				}
			case 4:
				switch s.Below(20) {
				case 0:
					w.Do(act(script.Trim, s.Below(9), 0))
				case 1:
					w.Do(act(script.Leave, 0, dev))
				case 2:
					w.Do(act(script.Fuse, s.Below(20), 0))
				case 3:
					text, _ := msg.Encode(msg.Msg{Kind: msg.Ask, Cmd: s.Cmd(9, 99)})
					w.Do(script.Op{Kind: script.Raw, Text: text})
				}
				if w.Down() {
					w.Do(script.Op{Kind: script.Fall, Keep: []int{s.Below(3), s.Below(3), s.Below(3)}})
				}
			case 5:
				if l := w.Device(dev).Cards(); len(l) > 0 {
					w.Do(script.Op{Kind: script.Write, Dev: dev, ID: l[s.Below(len(l))].ID, Patch: s.PatchOf(1 << s.Below(3))})
				}
			case 6, 7:
				w.Do(act(script.Say, 0, dev))
			case 8:
				w.Do(act([]int{script.Lose, script.Twice}[s.Below(2)], s.Below(3), 0))
			default:
				w.Do(act(script.Give, s.Below(3), 0))
			}
			for dev, f := range audit.All(w) {
				kinds[f.Kind]++
				d := w.Device(dev)
				if f.Kind == audit.Wrong || f.Cards != len(d.Cards()) {
					t.Fatalf("the device %d is %v", dev, f)
				}
				if f.Kind == audit.Right && f.Behind == 0 && !card.Same(d.Cards(), state.Cards(w.State(), dev)) {
					t.Fatalf("the device %d is Right, and has %v", dev, d.Cards())
				}
			}
		}
	}
	if kinds[audit.Right] < 1000 || kinds[audit.Lost] < 20 || kinds[audit.Off] < 1000 {
		t.Errorf("too few of a kind: %v", kinds)
	}
}
