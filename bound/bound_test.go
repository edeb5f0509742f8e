package bound_test

import (
	"math"
	"testing"

	"offprint/api"
	"offprint/bound"
	"offprint/card"
	"offprint/msg"
	"offprint/sample"
	"offprint/script"
	"offprint/state"
	"offprint/world"
)

var (
	all   = []api.Node{{Op: api.All}}
	seven = api.Patch{Mask: 1, F: [8]api.Value{{Kind: api.Num, N: 7}}}
)

func create() script.Op {
	return script.Op{Kind: script.Change, Edit: api.Edit{Kind: api.Create, Patch: seven}}
}
func want(dev int) script.Op {
	return script.Op{Kind: script.Want, Dev: dev, Filter: all, Mask: api.AllMask}
}
func write(dev, id int) script.Op {
	return script.Op{Kind: script.Write, Dev: dev, ID: id, Patch: seven}
}

func some(t *testing.T, l ...script.Op) *world.World {
	t.Helper()
	w, err := world.New(world.Conf{Devs: 2, Page: 2, Size: 200})
	if err != api.OK {
		t.Fatalf("New = %d", err)
	}
	for i, e := range w.Run(l) {
		if e != api.OK {
			t.Fatalf("the act %d = %d", i, e)
		}
	}
	return w
}

// P49.1
func TestTalk(t *testing.T) {
	w := some(t, create(), create(), create(), want(0))
	for _, dev := range []int{-1, 2, 6, math.MaxInt} {
		if bound.Talk(w, dev, 0) != api.ErrArg || bound.Quiet(w, dev) {
			t.Errorf("a Talk of no device %d", dev)
		}
	}
	if bound.Talk(nil, 0, 0) != api.ErrArg || bound.Quiet(nil, 0) || bound.Talk(w, 1, 0) != api.ErrNone || bound.Talk(w, 1, 1) != api.ErrNone || !bound.Quiet(w, 1) || bound.Quiet(w, 0) {
		t.Errorf("a Talk of no world, or of nothing")
	}
	if bound.Talk(w, 0, 1) != api.OK || len(w.State().Subs) != 0 || !w.Device(0).Busy() {
		t.Errorf("what is said, lost")
	}
	if bound.Talk(w, 0, 2) != api.OK || len(w.State().Subs) != 1 || !w.Device(0).Busy() {
		t.Errorf("an answer, lost")
	}
	if bound.Talk(w, 0, 0) != api.OK || w.Device(0).Busy() || w.Net().Len() != 0 || bound.Quiet(w, 0) {
		t.Errorf("a whole talk")
	}
	if bound.Talk(w, 0, 3) != api.OK || len(w.Device(0).Cards()) != 2 || bound.Quiet(w, 0) || bound.Talk(w, 0, -1) != api.OK || len(w.Device(0).Cards()) != 3 || !bound.Quiet(w, 0) {
		t.Errorf("talks that are whole")
	}
	w.Do(script.Op{Kind: script.Change, Edit: api.Edit{Kind: api.Open}})
	if bound.Quiet(w, 0) || bound.Talk(w, 0, 0) != api.OK || !bound.Quiet(w, 0) {
		t.Errorf("a step behind it is quiet")
	}
	w.Do(write(0, 1))
	if bound.Quiet(w, 0) {
		t.Errorf("a device with a write is quiet")
	}
	w.Do(script.Op{Kind: script.Fuse, N: 1})
	if bound.Talk(w, 0, 1) != api.OK || bound.Talk(w, 0, 0) != api.ErrPower || bound.Talk(w, 0, 0) != api.ErrState || bound.Talk(w, 1, 0) != api.ErrState || bound.Talk(w, 2, 0) != api.ErrArg || bound.Quiet(w, 1) {
		t.Errorf("a talk when the power goes")
	}
}

// P49.1: a device whose subscription is gone, or another one, is not quiet.
func TestQuiet(t *testing.T) {
	for i, c := range []api.Cmd{{Kind: api.DoLeave, Dev: 0, Req: 9}, {Kind: api.DoSub, Dev: 0, Req: 9, Filter: all, Mask: 1}} {
		w := some(t, create(), want(0))
		if talks, quiet := bound.Calm(w, 0, 2, 1, nil); !quiet || talks != 2 || !bound.Quiet(w, 0) {
			t.Errorf("Calm = %d, %v", talks, quiet)
		}
		text, _ := msg.Encode(msg.Msg{Kind: msg.Ask, Cmd: c})
		w.Do(script.Op{Kind: script.Raw, Text: text})
		if bound.Quiet(w, 0) {
			t.Errorf("the device is quiet behind %d", i)
		}
	}
}

// P49.1
func TestMost(t *testing.T) {
	for _, x := range [][4]int{{1, 0, 0, 49}, {16, 2, 32, 15}, {3, 5, 10, 30}, {16, 0, 15, 11}, {1, api.MaxNum, api.MaxNum, 49 + 2*api.MaxNum}, {0, 1, 1, 0}, {-1, 1, 1, 0}, {17, 1, 1, 0}, {1, -1, 1, 0}, {1, 1, -1, 0}, {1, api.MaxNum + 1, 1, 0}, {1, 1, api.MaxNum + 1, 0}} {
		if got := bound.Most(x[0], x[1], x[2]); got != x[3] {
			t.Errorf("Most(%v) = %d", x, got)
		}
	}
}

// P49.2
func TestCalm(t *testing.T) {
	w := some(t, create(), create(), create(), want(0))
	for _, x := range [][3]int{{0, 0, 1}, {0, 17, 1}, {0, 2, 0}, {0, 2, 101}, {0, 2, -1}, {2, 2, 1}, {-1, 2, 1}} {
		if n, quiet := bound.Calm(w, x[0], x[1], x[2], nil); n != 0 || quiet || !w.Device(0).Busy() {
			t.Errorf("Calm(%v) = %d, %v", x, n, quiet)
		}
	}
	for _, x := range [][2]int{{0, 1}, {17, 1}, {2, 0}, {2, 101}} { // of a device that is quiet
		if n, quiet := bound.Calm(w, 1, x[0], x[1], nil); n != 0 || quiet {
			t.Errorf("Calm(%v) of a quiet device = %d, %v", x, n, quiet)
		}
	}
	if n, quiet := bound.Calm(nil, 0, 2, 1, nil); n != 0 || quiet {
		t.Errorf("Calm of no world = %d, %v", n, quiet)
	}
	if n, quiet := bound.Calm(w, 1, 2, 1, nil); n != 0 || !quiet {
		t.Errorf("Calm of a quiet device = %d, %v", n, quiet)
	}
	if n, quiet := bound.Calm(w, 0, 2, 1, []int{1, 2, 1, 2, 1}); n != 3 || !quiet { // none may lose anything
		t.Errorf("Calm of whole talks = %d, %v", n, quiet)
	}
	lossy := func(k int, how ...int) int {
		w := some(t, create(), create(), create(), want(0))
		n, quiet := bound.Calm(w, 0, 2, k, how)
		if !quiet || !card.Same(w.Device(0).Cards(), state.Cards(w.State(), 0)) {
			t.Errorf("Calm is not quiet")
		}
		return n
	}
	for i, x := range [][2]int{{lossy(2, 1, 1, 1, 1, 1, 1, 1), 6}, {lossy(3, 1, 2, 1, 2, 1, 2, 1, 2, 1), 9}, {lossy(3, 1, 0, 1, 1, 1), 6}, {lossy(100, 1, 1, 1), 6}, {lossy(4, 7, 1, -1, 2, 0), 5}, {lossy(2), 3}} {
		if x[0] != x[1] {
			t.Errorf("Calm %d: %d talks, want %d", i, x[0], x[1])
		}
	}
	w = some(t, create(), want(0))
	w.Do(script.Op{Kind: script.Fuse, N: 1})
	if n, quiet := bound.Calm(w, 0, 2, 2, []int{1}); n != 2 || quiet {
		t.Errorf("Calm when the power goes = %d, %v", n, quiet)
	}
	if n, quiet := bound.Calm(w, 0, 2, 2, nil); n != 0 || quiet {
		t.Errorf("Calm of a world that is Down = %d, %v", n, quiet)
	}
	// Two writes are said, and what came of them is told.
	w = some(t, want(0))
	bound.Calm(w, 0, 2, 1, nil)
	for range 3 {
		w.Do(create())
	}
	bound.Calm(w, 0, 2, 1, nil)
	w.Do(write(0, 1))
	w.Do(write(0, 2))
	if n, quiet := bound.Calm(w, 0, 2, 1, nil); n != 3 || !quiet || w.Device(0).Busy() {
		t.Errorf("Calm of two writes = %d, %v", n, quiet)
	}
}

// P49.2: there are no more talks than k times Most, of the page that is told.
func TestCalmEnds(t *testing.T) {
	for _, x := range [][3]int{{16, 1, 13}, {16, 2, 26}, {13, 3, 45}, {1, 1, 89}} {
		w, _ := world.New(world.Conf{Devs: 1, Page: 1, Size: 400})
		for range 40 {
			w.Do(create())
		}
		w.Do(want(0))
		quiet := x[2] >= 41
		if x[2] > 41 {
			x[2] = 41
		}
		if n, is := bound.Calm(w, 0, x[0], x[1], nil); n != x[2] || is != quiet {
			t.Errorf("Calm with a page of %d, %d = %d, %v", x[0], x[1], n, is)
		}
	}
}

// P49.3
func TestSoon(t *testing.T) {
	s := sample.New(49)
	full := 0
	for range 150 {
		page := 1 + s.Below(6)
		w, _ := world.New(world.Conf{Devs: 5, Page: page, Size: 200})
		for range s.Below(250) {
			dev := s.Below(5)
			switch s.Below(9) {
			case 0, 1:
				w.Do(script.Op{Kind: script.Change, Edit: s.Edit(max(w.State().Book.Next-1, 1))})
			case 2:
				if s.Below(3) == 0 {
					w.Do(script.Op{Kind: script.Want, Dev: dev, Filter: s.Fit(), Mask: s.Mask() | 7})
				}
			case 3:
				if l := w.Device(dev).Cards(); len(l) > 0 {
					w.Do(script.Op{Kind: script.Write, Dev: dev, ID: l[s.Below(len(l))].ID, Patch: s.PatchOf(1 << s.Below(3))})
				}
			case 4:
				if s.Below(8) == 0 {
					w.Do(script.Op{Kind: script.Trim, N: s.Below(9)})
				}
				if s.Below(8) == 0 {
					w.Do(script.Op{Kind: script.Leave, Dev: dev})
				}
			case 5:
				w.Do(script.Op{Kind: script.Say, Dev: dev})
			case 6:
				w.Do(script.Op{Kind: script.Twice, N: s.Below(3)})
			default:
				w.Do(script.Op{Kind: script.Give, N: s.Below(4)})
			}
		}
		if s.Below(3) == 0 {
			w.Do(script.Op{Kind: script.Fall, Keep: []int{1, 2, 0}})
		}
		for dev := range 5 {
			d, k := w.Device(dev), 1+s.Below(4)
			var how []int
			for range 400 {
				how = append(how, s.Below(3))
			}
			reported := len(d.Reports())
			most := k * bound.Most(page, len(d.Queue()), len(w.State().Book.Cards))
			n, quiet := bound.Calm(w, dev, page, k, how)
			for _, r := range d.Reports()[reported:] {
				if r.Code == api.ErrFull {
					full++
					quiet = true
				}
			}
			if n > most || !quiet || len(d.Queue()) != 0 {
				t.Fatalf("the device %d is quiet %v, behind %d talks of %d, with %d writes", dev, quiet, n, most, len(d.Queue()))
			}
			if d.Token() != (api.Token{}) && !card.Same(d.Cards(), state.Cards(w.State(), dev)) {
				t.Fatalf("the device %d has %v", dev, d.Cards())
			}
		}
	}
	if full > 100 {
		t.Errorf("too many requests were answered by ErrFull: %d", full)
	}
}
