package value_test

import (
	"math"
	"strings"
	"testing"

	"offprint/api"
	"offprint/sample"
	"offprint/value"
)

func num(n int) api.Value     { return api.Value{Kind: api.Num, N: n} }
func text(s string) api.Value { return api.Value{Kind: api.Text, S: s} }

var long = strings.Repeat("x", api.MaxText)

var wrong = []api.Value{
	{Kind: api.None, N: 1}, {Kind: api.None, S: "a"}, {Kind: api.Num, N: -1}, {Kind: api.Num, N: api.MaxNum + 1}, {Kind: api.Num, N: 1, S: "a"},
	{Kind: api.Text, N: 1}, {Kind: api.Text, N: -1, S: "a"}, {Kind: api.Text, S: long + "y"}, {Kind: 3}, {Kind: -1}, {Kind: math.MaxInt}, {Kind: math.MinInt, N: 3},
}

// P4.1
func TestCheck(t *testing.T) {
	for _, v := range []api.Value{{}, num(0), num(7), num(api.MaxNum), text(""), text("a"), text(long), text("\x00\xff")} {
		if !value.Check(v) {
			t.Errorf("Check(%v) is false", v)
		}
	}
	for _, v := range wrong {
		if value.Check(v) {
			t.Errorf("Check(%v) is true", v)
		}
		if s := value.Show(v); s != "" {
			t.Errorf("Show(%v) = %q", v, s)
		}
	}
}

// P4.1
func TestCompareAndLess(t *testing.T) {
	rising := []api.Value{{Kind: -5, N: 3}, {}, {S: "a"}, {N: 1}, num(-1), num(0), {Kind: api.Num, S: "b"}, num(2), num(10), text(""), text("A"), text("a"), text("aa"), text("b"), text("\xff"), {Kind: api.Text, N: 1}, {Kind: 3}}
	for i, a := range rising {
		for j, b := range rising {
			want := 0
			if i < j {
				want = -1
			} else if i > j {
				want = 1
			}
			if got := value.Compare(a, b); got != want {
				t.Errorf("Compare(%v, %v) = %d", a, b, got)
			}
			less := want < 0 && a.Kind == b.Kind && (a.Kind == api.Num || a.Kind == api.Text)
			if value.Less(a, b) != less {
				t.Errorf("Less(%v, %v) = %v", a, b, !less)
			}
		}
	}
}

// P4.2
func TestFoldAndHolds(t *testing.T) {
	if got := value.Fold("AZaz@[`{\xc4\x00 M9"); got != "azaz@[`{\xc4\x00 m9" {
		t.Errorf("Fold = %q", got)
	}
	if value.Fold("") != "" || value.Fold("É") != "É" {
		t.Errorf("Fold")
	}
	for _, c := range []struct {
		v, part api.Value
		is      bool
	}{
		{text("Abc"), text("BC"), true}, {text("abc"), text("aBc"), true}, {text("abc"), text(""), true}, {text(""), text(""), true},
		{text("abc"), text("ac"), false}, {text("ab"), text("abc"), false}, {num(12), num(1), false}, {text("12"), num(1), false}, {num(12), text(""), false},
		{api.Value{}, text(""), false}, {text(""), api.Value{}, false}, {text("xABx"), text("ab"), true}, {text("É"), text("é"), false},
	} {
		if value.Holds(c.v, c.part) != c.is {
			t.Errorf("Holds(%v, %v) = %v", c.v, c.part, !c.is)
		}
	}
}

// P4.3
func TestShow(t *testing.T) {
	for want, v := range map[string]api.Value{
		`-`: {}, `0`: num(0), `1099511627776`: num(api.MaxNum), `""`: text(""), `"a\"b"`: text(`a"b`), `"\\"`: text(`\`), `"\\\""`: text(`\"`),
		`"\x00\x1f ~\x7f\xff"`: text("\x00\x1f ~\x7f\xff"), `"\xc3\xa4"`: text("ä"), `"\x0a\xab"`: text("\n\xab"), `"'A"`: text("'A"),
	} {
		if got := value.Show(v); got != want {
			t.Errorf("Show(%v) = %q, want %q", v, got, want)
		}
		if v.Kind == api.Text && value.Quote(v.S) != want {
			t.Errorf("Quote(%q) = %q", v.S, value.Quote(v.S))
		}
		if got, ok := value.Read(want); !ok || got != v {
			t.Errorf("Read(%q) = %v, %v", want, got, ok)
		}
	}
	if got := value.Quote(strings.Repeat("\x01", 30)); got != `"`+strings.Repeat(`\x01`, 30)+`"` {
		t.Errorf("Quote of a long text = %q", got)
	}
}

// P4.3
func TestReadOfWhatIsNoText(t *testing.T) {
	for _, s := range []string{
		"", " ", "--", "- ", "01", "-1", "1099511627777", "a", "1 ", " 1", `"`, `"a`, `a"`, `"a"b"`, `"a""`, `"\"`, `"\`, `"\\\"`, `"\a"`, `"\x41"`, `"\x0A"`, `"\xAB"`, `"\xc"`, `"\x0"`, `"\x`, `"\x"`, `"\xg0"`, `"\x0g"`,
		"\"\x00\"", "\"\n\"", "\"\x7f\"", `'a'`, `"a" `, ` "a"`, `"` + long + `y"`, `"` + strings.Repeat(`\x00`, api.MaxText) + `\x00"`, strings.Repeat("1", 4000), `"` + strings.Repeat("a", 4000) + `"`,
	} {
		if v, ok := value.Read(s); ok || v != (api.Value{}) {
			t.Errorf("Read(%q) = %v, %v", s, v, ok)
		}
	}
}

// P4.4
func TestEachValueHasItsText(t *testing.T) {
	s := sample.New(4)
	texts := map[string]api.Value{}
	for range 5000 {
		v := s.Value()
		if got, ok := value.Read(value.Show(v)); !ok || got != v {
			t.Fatalf("Read of %q = %v, %v", value.Show(v), got, ok)
		}
		if u, ok := texts[value.Show(v)]; ok && u != v {
			t.Fatalf("%v and %v have one text", u, v)
		}
		texts[value.Show(v)] = v
	}
	all := text(strings.Repeat("\x00", api.MaxText))
	if got, ok := value.Read(value.Show(all)); !ok || got != all {
		t.Errorf("the longest text is not read")
	}
}

// P4.5
func TestLessIsAnOrder(t *testing.T) {
	s := sample.New(5)
	for range 20000 {
		a, b, c := s.Value(), s.Value(), s.Value()
		if value.Less(a, a) || value.Less(a, b) && value.Less(b, c) && !value.Less(a, c) {
			t.Fatalf("Less of %v, %v, %v", a, b, c)
		}
	}
}
