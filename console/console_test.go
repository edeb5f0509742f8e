package console_test

import (
	"strings"
	"testing"

	"offprint/api"
	"offprint/console"
	"offprint/sample"
	"offprint/script"
	"offprint/world"
)

var (
	all   = []api.Node{{Op: api.All}}
	seven = api.Patch{Mask: 1, F: [8]api.Value{{Kind: api.Num, N: 7}}}
	conf  = world.Conf{Devs: 2, Page: 2, Size: 60}
)

func change(e api.Edit) script.Op { return script.Op{Kind: script.Change, Edit: e} }
func create() script.Op           { return change(api.Edit{Kind: api.Create, Patch: seven}) }
func act(kind, n, dev int) script.Op {
	return script.Op{Kind: kind, N: n, Dev: dev}
}
func want(dev int) script.Op {
	return script.Op{Kind: script.Want, Dev: dev, Filter: all, Mask: 1}
}
func talk(dev int) []script.Op {
	return []script.Op{act(script.Say, 0, dev), act(script.Give, 0, 0), act(script.Give, 0, 0)}
}

func play(t *testing.T, l []script.Op) string {
	t.Helper()
	text, ok := script.Encode(l)
	if !ok {
		t.Fatalf("the script may not be")
	}
	got, err := console.Play(conf, text)
	if err != api.OK {
		t.Fatalf("Play = %d", err)
	}
	return got
}

// P51.1
func TestPlay(t *testing.T) {
	if got, err := console.Play(world.Conf{Devs: 1, Page: 1, Size: 9}, "\x00"); err != api.OK || got != "\nserver up 0 cards 0 dead 0 groups 0\ndevice 0 off cards 0 waits 0 idle reports 0 off\n" {
		t.Errorf("the example = %q, %d", got, err)
	}
	l := []script.Op{create(), create(), create(), change(api.Edit{Kind: api.Delete, ID: 2}), change(api.Edit{Kind: api.Open, Group: 3}), want(1)}
	l = append(l, talk(1)...)
	if got := play(t, l); got != "0 0 0 0 0 0 0 0 0\nserver up 5 cards 2 dead 1 groups 1\ndevice 0 off cards 0 waits 0 idle reports 0 off\ndevice 1 1.1.5.0 cards 0 waits 0 idle reports 0 right 1\n" {
		t.Errorf("a device that has nothing yet = %q", got)
	}
	l = append(l, talk(1)...)
	l = append(l, script.Op{Kind: script.Write, Dev: 1, ID: 3, Patch: seven}, script.Op{Kind: script.Write, Dev: 1, ID: 2, Patch: seven}, want(0), create())
	if got := play(t, l); got != "0 0 0 0 0 0 0 0 0 0 0 0 0 6 0 0\nserver up 6 cards 3 dead 1 groups 1\ndevice 0 off cards 0 waits 0 busy reports 0 off\ndevice 1 1.1.5.all cards 2 waits 1 busy reports 0 right 1\n" {
		t.Errorf("a device with a write = %q", got)
	}
	l = append(l, act(script.Leave, 0, 1), act(script.Say, 0, 1), act(script.Give, 0, 0))
	if got := play(t, l); !strings.HasSuffix(got, "device 1 1.1.5.all cards 2 waits 1 busy reports 0 lost\n") {
		t.Errorf("a device that is lost = %q", got)
	}
	l = append(l, act(script.Give, 0, 0))
	if got := play(t, l); !strings.HasSuffix(got, "device 1 off cards 0 waits 0 idle reports 1 off\n") {
		t.Errorf("a device that stopped = %q", got)
	}
	l = append(l, act(script.Fuse, 0, 0), create(), act(script.Give, 7, 0))
	if got := play(t, l); !strings.HasSuffix(got, " 0 15 6\nserver down\ndevice 0 off cards 0 waits 0 busy reports 0\ndevice 1 off cards 0 waits 0 idle reports 1\n") {
		t.Errorf("a world that is Down = %q", got)
	}
}

// P51.1
func TestErrors(t *testing.T) {
	for _, x := range []struct {
		c    world.Conf
		text string
		want api.Errno
	}{{conf, "", api.ErrShort}, {conf, "\x01\x00", api.ErrForm}, {conf, "\x00\x00", api.ErrForm}, {world.Conf{}, "\x00", api.ErrArg}, {world.Conf{}, "\x01\x0d", api.ErrLong}, {world.Conf{Devs: 1, Page: 1, Size: 2}, "\x00", api.ErrArg}} {
		if got, err := console.Play(x.c, x.text); got != "" || err != x.want {
			t.Errorf("Play(%v, %q) = %q, %d", x.c, x.text, got, err)
		}
	}
	w, _ := world.New(world.Conf{Devs: 6, Page: 1, Size: 9})
	if got := console.Show(w); strings.Count(got, "\n") != 7 || !strings.HasSuffix(got, "device 5 off cards 0 waits 0 idle reports 0 off\n") {
		t.Errorf("Show of six devices = %q", got)
	}
	if console.Show(nil) != "" {
		t.Errorf("Show of no world = %q", console.Show(nil))
	}
	for want, l := range map[string][]api.Errno{"\n": nil, "0\n": {0}, "0 16 3\n": {0, 16, 3}} {
		if got := console.Codes(l); got != want {
			t.Errorf("Codes(%v) = %q", l, got)
		}
	}
}

// some is a script of any acts.
func some(s *sample.Source, n int) (l []script.Op) {
	for range n {
		dev := s.Below(2)
		switch s.Below(10) {
		case 0, 1:
			l = append(l, change(s.Edit(6)))
		case 2:
			l = append(l, script.Op{Kind: script.Want, Dev: dev, Filter: s.Fit(), Mask: s.Mask()})
		case 3:
			l = append(l, script.Op{Kind: script.Write, Dev: dev, ID: 1 + s.Below(6), Patch: s.Patch()})
		case 4:
			l = append(l, []script.Op{act(script.Lose, s.Below(2), 0), act(script.Twice, s.Below(2), 0), act(script.Trim, s.Below(9), 0), act(script.Leave, 0, dev), act(script.Fuse, s.Below(40), 0), {Kind: script.Fall, Keep: []int{s.Below(3), s.Below(3)}}, {Kind: script.Raw, Text: string(s.Bytes(3))}}[s.Below(7)])
		case 5, 6:
			l = append(l, act(script.Say, 0, dev))
		default:
			l = append(l, act(script.Give, s.Below(2), 0))
		}
	}
	return l
}

// P51.2
func TestPlayedAgain(t *testing.T) {
	s := sample.New(51)
	for range 60 {
		l := some(s, 80)
		whole := play(t, l)
		if again := play(t, l); again != whole {
			t.Fatalf("played again: %q, and %q", whole, again)
		}
		part := play(t, l[:40])
		codes, _, _ := strings.Cut(part, "\n")
		if !strings.HasPrefix(whole, codes+" ") {
			t.Fatalf("the codes of a part are %q, those of the whole %q", codes, whole)
		}
		if strings.Contains(whole, "wrong") {
			t.Fatalf("a device is wrong: %q", whole)
		}
	}
}
