package script_test

import (
	"slices"
	"strings"
	"testing"

	"offprint/api"
	"offprint/sample"
	"offprint/script"
)

var (
	not3  = []api.Node{{Op: api.Not}, {Op: api.Label, N: 3}}
	seven = api.Patch{Mask: 1, F: [8]api.Value{{Kind: api.Num, N: 7}}}
	open2 = api.Edit{Kind: api.Open, Group: 2}
)

var may = []struct {
	o script.Op
	b string
}{
	{script.Op{Kind: script.Change, Edit: open2}, "\x01\x04\x02"}, {script.Op{Kind: script.Trim, N: 300}, "\x02\xac\x02"}, {script.Op{Kind: script.Want, Dev: 5, Filter: not3, Mask: 257}, "\x03\x05\x02\x0a\x03\x03\x81\x02"}, {script.Op{Kind: script.Leave, Dev: 1}, "\x04\x01"}, {script.Op{Kind: script.Write, Dev: 2, ID: 300, Patch: seven}, "\x05\x02\xac\x02\x01\x01\x07"}, {script.Op{Kind: script.Say, Dev: 2}, "\x06\x02"}, {script.Op{Kind: script.Give}, "\x07\x00"}, {script.Op{Kind: script.Lose, N: 1}, "\x08\x01"}, {script.Op{Kind: script.Twice, N: 2}, "\x09\x02"}, {script.Op{Kind: script.Fuse, N: api.MaxNum}, "\x0a\x80\x80\x80\x80\x80\x20"}, {script.Op{Kind: script.Fall, Keep: []int{0, 1, 2}}, "\x0b\x03\x00\x01\x02"}, {script.Op{Kind: script.Fall}, "\x0b\x00"}, {script.Op{Kind: script.Raw, Text: "ab"}, "\x0c\x02ab"}, {script.Op{Kind: script.Raw}, "\x0c\x00"},
}

// P47.1
func TestActsThatMayBe(t *testing.T) {
	var l []script.Op
	all := string(rune(len(may)))
	for _, x := range may {
		if !script.Check(x.o) {
			t.Errorf("Check(%v) is false", x.o)
		}
		if got, ok := script.Encode([]script.Op{x.o}); !ok || got != "\x01"+x.b {
			t.Errorf("Encode(%v) = %q, %v", x.o, got, ok)
		}
		if got, err := script.Decode("\x01" + x.b); err != api.OK || len(got) != 1 || !script.Same(got[0], x.o) {
			t.Errorf("Decode(%q) = %v, %d", x.b, got, err)
		}
		if got, err := script.Decode("\x01" + x.b + "\x00"); err != api.ErrForm || got != nil {
			t.Errorf("Decode of %q and more = %v, %d", x.b, got, err)
		}
		for n := range x.b {
			if got, err := script.Decode("\x01" + x.b[:n]); err != api.ErrShort || got != nil {
				t.Errorf("Decode(%q) = %v, %d", x.b[:n], got, err)
			}
		}
		l, all = append(l, x.o), all+x.b
	}
	if got, ok := script.Encode(l); !ok || got != all {
		t.Errorf("Encode = %q, %v", got, ok)
	}
	if got, err := script.Decode(all); err != api.OK || !slices.EqualFunc(got, l, script.Same) {
		t.Errorf("Decode = %v, %d", got, err)
	}
	if got, ok := script.Encode(nil); !ok || got != "\x00" {
		t.Errorf("Encode of no acts = %q, %v", got, ok)
	}
	if got, err := script.Decode("\x00"); err != api.OK || len(got) != 0 {
		t.Errorf("Decode of no acts = %v, %d", got, err)
	}
}

// P47.1
func TestKinds(t *testing.T) {
	kinds := []int{script.Change, script.Trim, script.Want, script.Leave, script.Write, script.Say, script.Give, script.Lose, script.Twice, script.Fuse, script.Fall, script.Raw}
	for i, kind := range kinds {
		if kind != i+1 {
			t.Errorf("the kind %d is %d", i+1, kind)
		}
	}
	if script.MaxOps != 400 {
		t.Errorf("MaxOps is %d", script.MaxOps)
	}
}

// P47.1
func TestActsThatMayNotBe(t *testing.T) {
	var wrong []script.Op
	owns := map[int]string{script.Change: "e", script.Trim: "n", script.Want: "dfm", script.Leave: "d", script.Write: "dip", script.Say: "d", script.Give: "n", script.Lose: "n", script.Twice: "n", script.Fuse: "n", script.Fall: "k", script.Raw: "t"}
	fills := map[string]func(o *script.Op){
		"e": func(o *script.Op) { o.Edit = api.Edit{Kind: 1} }, "n": func(o *script.Op) { o.N = 1 }, "d": func(o *script.Op) { o.Dev = 1 }, "i": func(o *script.Op) { o.ID = 1 }, "f": func(o *script.Op) { o.Filter = not3 }, "m": func(o *script.Op) { o.Mask = 1 }, "p": func(o *script.Op) { o.Patch.Labels = 1 }, "k": func(o *script.Op) { o.Keep = []int{0} }, "t": func(o *script.Op) { o.Text = "\x00" },
	}
	spoils := map[string][]func(o *script.Op){
		"e": {func(o *script.Op) { o.Edit.Group = 16 }, func(o *script.Op) { o.Edit = api.Edit{} }}, "n": {func(o *script.Op) { o.N = -1 }, func(o *script.Op) { o.N = api.MaxNum + 1 }}, "d": {func(o *script.Op) { o.Dev = -1 }, func(o *script.Op) { o.Dev = 6 }}, "i": {func(o *script.Op) { o.ID = 0 }, func(o *script.Op) { o.ID = -1 }, func(o *script.Op) { o.ID = api.MaxID }}, "f": {func(o *script.Op) { o.Filter = nil }, func(o *script.Op) { o.Filter = not3[:1] }}, "m": {func(o *script.Op) { o.Mask = 512 }},
		"p": {func(o *script.Op) { o.Patch = api.Patch{} }, func(o *script.Op) { o.Patch.Labels = 1 }}, "k": {func(o *script.Op) { o.Keep = []int{3} }, func(o *script.Op) { o.Keep = []int{1, -1} }, func(o *script.Op) { o.Keep = make([]int, api.MaxNet+1) }}, "t": {func(o *script.Op) { o.Text = strings.Repeat("x", api.MaxMsg+1) }},
	}
	for _, x := range may {
		for name, fill := range fills {
			if o := x.o; !strings.Contains(owns[o.Kind], name) {
				fill(&o)
				wrong = append(wrong, o)
				if script.Same(o, x.o) || script.Same(x.o, o) {
					t.Errorf("Same of %v and %v", o, x.o)
				}
				continue
			}
			for _, spoil := range spoils[name] {
				o := x.o
				spoil(&o)
				wrong = append(wrong, o)
			}
		}
	}
	for _, kind := range []int{0, -1, 13, 1 << 40} {
		wrong = append(wrong, script.Op{Kind: kind})
	}
	for _, o := range wrong {
		if script.Check(o) {
			t.Errorf("Check(%v) is true", o)
		}
		if got, ok := script.Encode([]script.Op{may[0].o, o}); ok || got != "" {
			t.Errorf("Encode(%v) = %q, %v", o, got, ok)
		}
	}
	for _, o := range []script.Op{{Kind: script.Fall, Keep: make([]int, api.MaxNet)}, {Kind: script.Raw, Text: strings.Repeat("x", api.MaxMsg)}, {Kind: script.Want, Filter: not3}, {Kind: script.Write, ID: api.MaxID - 1, Patch: seven}} {
		if !script.Check(o) {
			t.Errorf("Check(%.40v) is false", o)
		}
		s, _ := script.Encode([]script.Op{o})
		if got, err := script.Decode(s); err != api.OK || !script.Same(got[0], o) {
			t.Errorf("%.40v is decoded as %.40v, %d", o, got, err)
		}
	}
	many := slices.Repeat([]script.Op{{Kind: script.Give}}, script.MaxOps+1)
	if got, ok := script.Encode(many); ok || got != "" {
		t.Errorf("Encode of too many acts = %q", got)
	}
	s, ok := script.Encode(many[1:])
	if got, err := script.Decode(s); !ok || err != api.OK || len(got) != script.MaxOps {
		t.Errorf("Decode of as many as there may be = %d", err)
	}
}

// P47.2
func TestErrors(t *testing.T) {
	for s, want := range map[string]api.Errno{
		"": api.ErrShort, "\x91\x03": api.ErrLong, "\x01": api.ErrShort, "\x01\x00": api.ErrForm, "\x01\x0d": api.ErrLong, "\x00\x01": api.ErrForm, "\x01\x01\x00": api.ErrForm, "\x01\x01\x08": api.ErrLong, "\x01\x01\x04\x10": api.ErrLong, "\x01\x02\x81\x80\x80\x80\x80\x20": api.ErrLong, "\x01\x03\x06": api.ErrLong, "\x01\x03\x00\x00": api.ErrForm, "\x01\x03\x00\x01\x01\x80\x04": api.ErrLong, "\x01\x04\x06": api.ErrLong,
		"\x01\x05\x06": api.ErrLong, "\x01\x05\x00\x00": api.ErrForm, "\x01\x05\x00\x80\x80\x80\x80\x04": api.ErrLong, "\x01\x05\x00\x01\x00": api.ErrForm, "\x01\x05\x00\x01\x80\x04": api.ErrLong, "\x01\x06\x06": api.ErrLong, "\x01\x0b\x29": api.ErrLong, "\x01\x0b\x01\x03": api.ErrLong, "\x01\x0b\x02\x00": api.ErrShort, "\x01\x0c\x81\x20": api.ErrLong, "\x01\x0c\x02a": api.ErrShort, "\x02\x07\x00\x00": api.ErrForm, "\x02\x07\x00": api.ErrShort, "\x02\x00\x0d": api.ErrForm,
	} {
		if got, err := script.Decode(s); err != want || got != nil {
			t.Errorf("Decode(%q) = %v, %d; want %d", s, got, err, want)
		}
	}
}

// P47.3
func TestAnyBytes(t *testing.T) {
	s := sample.New(47)
	read := 0
	for range 30000 {
		var l []script.Op
		for range 1 + s.Below(3) {
			l = append(l, may[s.Below(len(may))].o)
		}
		all, _ := script.Encode(l)
		if got, err := script.Decode(all); err != api.OK || !slices.EqualFunc(got, l, script.Same) {
			t.Fatalf("%v is decoded as %v", l, got)
		}
		b := []byte(all)
		for range 1 + s.Below(2) {
			b[s.Below(len(b))] = byte(s.Below(14))
		}
		if got, err := script.Decode(string(b)); err == api.OK {
			read++
			for _, o := range got {
				if !script.Check(o) {
					t.Fatalf("%q is decoded as %v", b, got)
				}
			}
			if again, ok := script.Encode(got); !ok || again != string(b) {
				t.Fatalf("%q is decoded as %v", b, got)
			}
		}
	}
	if read < 500 {
		t.Errorf("too few were read: %d", read)
	}
}
