package lex_test

import (
	"slices"
	"strings"
	"testing"

	"offprint/api"
	"offprint/bits"
	"offprint/lex"
	"offprint/sample"
	"offprint/value"
)

func letters(at int, s string) lex.Word { return lex.Word{Kind: lex.Letters, At: at, S: s} }
func number(at, n int) lex.Word         { return lex.Word{Kind: lex.Number, At: at, N: n} }
func quoted(at int, s string) lex.Word  { return lex.Word{Kind: lex.Quoted, At: at, S: s} }
func sign(at int, s string) lex.Word    { return lex.Word{Kind: lex.Sign, At: at, S: s} }

// P9.1
func TestWords(t *testing.T) {
	for _, c := range []struct {
		s    string
		want []lex.Word
	}{
		{"", nil}, {"   ", nil},
		{`field 3 = "a"`, []lex.Word{letters(0, "field"), number(6, 3), sign(8, "="), quoted(10, "a")}},
		{"  ab12cd  0 ", []lex.Word{letters(2, "ab"), number(4, 12), letters(6, "cd"), number(10, 0)}},
		{"()=<>~", []lex.Word{sign(0, "("), sign(1, ")"), sign(2, "="), sign(3, "<"), sign(4, ">"), sign(5, "~")}},
		{"==", []lex.Word{sign(0, "="), sign(1, "=")}},
		{`"a""b"`, []lex.Word{quoted(0, "a"), quoted(3, "b")}}, {`""`, []lex.Word{quoted(0, "")}},
		{`"\"" "\\"x`, []lex.Word{quoted(0, `"`), quoted(5, `\`), letters(9, "x")}},
		{`"\x00\xff"7`, []lex.Word{quoted(0, "\x00\xff"), number(10, 7)}}, {`" ( "`, []lex.Word{quoted(0, " ( ")}},
		{"1099511627776", []lex.Word{number(0, api.MaxNum)}}, {"az za", []lex.Word{letters(0, "az"), letters(3, "za")}},
		{`"` + strings.Repeat("x", 24) + `"`, []lex.Word{quoted(0, strings.Repeat("x", 24))}},
	} {
		got, at, err := lex.All(c.s)
		if !slices.Equal(got, c.want) || at != 0 || err != api.OK {
			t.Errorf("All(%q) = %v, %d, %d", c.s, got, at, err)
		}
		if each := slices.Collect(lex.Each(c.s)); !slices.Equal(each, c.want) {
			t.Errorf("Each(%q) = %v", c.s, each)
		}
	}
}

// P9.1
func TestKinds(t *testing.T) {
	if lex.Letters != 1 || lex.Number != 2 || lex.Quoted != 3 || lex.Sign != 4 || lex.MaxFilter != 1000 {
		t.Errorf("the kinds of words")
	}
}

// P9.1
func TestErrors(t *testing.T) {
	for _, c := range []struct {
		s   string
		at  int
		err api.Errno
	}{
		{"a 07", 2, api.ErrForm}, {"00", 0, api.ErrForm}, {"1099511627777", 0, api.ErrForm}, {"x 99999999999999999999", 2, api.ErrForm},
		{"A", 0, api.ErrForm}, {"a\tb", 1, api.ErrForm}, {"a\n", 1, api.ErrForm}, {"a -1", 2, api.ErrForm}, {"a,b", 1, api.ErrForm}, {"ä", 0, api.ErrForm}, {"a {", 2, api.ErrForm}, {"`", 0, api.ErrForm},
		{`a "b`, 2, api.ErrForm}, {`"`, 0, api.ErrForm}, {`"\"`, 0, api.ErrForm}, {`"a\`, 0, api.ErrForm}, {`a"`, 1, api.ErrForm}, {`"\x41"`, 0, api.ErrForm}, {`"\xFF"`, 0, api.ErrForm}, {`"\a"`, 0, api.ErrForm}, {"\"\x01\"", 0, api.ErrForm},
		{`"a" "\q" ?`, 4, api.ErrForm},
		{strings.Repeat(" ", 1000) + "?", 0, api.ErrLong}, {strings.Repeat("a", 1001), 0, api.ErrLong}, {strings.Repeat(" ", 999) + "?", 999, api.ErrForm},
	} {
		got, at, err := lex.All(c.s)
		if got != nil || at != c.at || err != c.err {
			t.Errorf("All(%q) = %v, %d, %d", c.s, got, at, err)
		}
		for w := range lex.Each(c.s) {
			t.Errorf("Each(%q) tells %v", c.s, w)
		}
	}
	if got, at, err := lex.All(strings.Repeat("a", lex.MaxFilter)); len(got) != 1 || at != 0 || err != api.OK {
		t.Errorf("All of the longest text = %d, %d", at, err)
	}
	for w := range lex.Each("a b c") {
		if w.S == "b" {
			break
		}
	}
}

// shown is a word's text.
func shown(w lex.Word) string {
	switch w.Kind {
	case lex.Number:
		return bits.Tens(w.N)
	case lex.Quoted:
		return value.Quote(w.S)
	}
	return w.S
}

// P9.2
func TestWordsPutTogether(t *testing.T) {
	s := sample.New(9)
	for range 2000 {
		var l []lex.Word
		var texts []string
		at := 0
		for range s.Below(12) {
			v := s.Value()
			w := []lex.Word{letters(0, "labels"[:1+s.Below(6)]), sign(0, "()=<>~"[s.Below(6):][:1]), number(0, v.N), quoted(0, v.S)}[s.Below(4)]
			w.At = at
			l, texts = append(l, w), append(texts, shown(w))
			at += len(shown(w)) + 1
		}
		got, _, err := lex.All(strings.Join(texts, " "))
		if at <= lex.MaxFilter && (err != api.OK || !slices.Equal(got, l)) {
			t.Fatalf("%q has the words %v, %d", texts, got, err)
		}
	}
}
