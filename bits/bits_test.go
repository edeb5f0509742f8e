package bits_test

import (
	"math"
	"slices"
	"strings"
	"testing"

	"offprint/api"
	"offprint/bits"
)

// P3.1
func TestTens(t *testing.T) {
	for n, want := range map[int]string{0: "0", 7: "7", 10: "10", -1: "-1", -120: "-120", math.MaxInt: "9223372036854775807", math.MinInt: "-9223372036854775808"} {
		if got := bits.Tens(n); got != want {
			t.Errorf("Tens(%d) = %q", n, got)
		}
	}
}

// P3.1
func TestInt(t *testing.T) {
	for _, c := range []struct {
		s    string
		most int
		n    int
		ok   bool
	}{
		{"0", 0, 0, true}, {"0", -1, 0, false}, {"7", 7, 7, true}, {"8", 7, 0, false}, {"120", 1000, 120, true},
		{"", 9, 0, false}, {"00", 9, 0, false}, {"07", 9, 0, false}, {"-1", 9, 0, false}, {"-0", 9, 0, false}, {"+1", 9, 0, false},
		{" 1", 9, 0, false}, {"1 ", 9, 0, false}, {"1a", 99, 0, false}, {"a", 99, 0, false}, {"1_0", 99, 0, false}, {"0x1", 99, 0, false}, {"1.0", 99, 0, false}, {"/", 99, 0, false}, {":", 99, 0, false},
		{"1099511627776", api.MaxNum, api.MaxNum, true}, {"1099511627776", math.MaxInt, api.MaxNum, true}, {"1099511627777", math.MaxInt, 0, false},
		{"1099511627776", api.MaxNum - 1, 0, false}, {"99999999999999999999999999", math.MaxInt, 0, false}, {"18446744073709551617", math.MaxInt, 0, false},
		{strings.Repeat("1", 5000), math.MaxInt, 0, false}, {strings.Repeat("0", 5000), math.MaxInt, 0, false},
	} {
		if n, ok := bits.Int(c.s, c.most); n != c.n || ok != c.ok {
			t.Errorf("Int(%q, %d) = %d, %v", c.s, c.most, n, ok)
		}
	}
}

// P3.2
func TestSets(t *testing.T) {
	s := bits.Of(0, 3, 5, 31, 3, -1, 32, 64, math.MinInt, math.MaxInt)
	if s != 1|8|32|1<<31 || bits.Of() != 0 {
		t.Errorf("Of = %b", s)
	}
	for n := -70; n < 100; n++ {
		is := n == 0 || n == 3 || n == 5 || n == 31
		if bits.Has(s, n) != is {
			t.Errorf("Has(%d)", n)
		}
		in := n >= 0 && n < 32
		with, without := bits.With(s, n), bits.Without(s, n)
		if bits.Has(with, n) != in || bits.Has(without, n) || !in && (with != s || without != s) {
			t.Errorf("With and Without of %d: %b, %b", n, with, without)
		}
		if in && (with&^without != 1<<n || with|1<<n != s|1<<n || without != s&^(1<<n)) {
			t.Errorf("With and Without of %d touch others", n)
		}
	}
	if bits.Count(s) != 4 || bits.Count(0) != 0 || bits.Count(math.MaxUint32) != 32 {
		t.Errorf("Count")
	}
	for _, c := range []struct {
		a, b uint32
		is   bool
	}{{0, 0, true}, {0, 5, true}, {1, 5, true}, {5, 5, true}, {5, 4, false}, {2, 5, false}, {1 << 31, math.MaxUint32, true}, {1 << 31, 1, false}} {
		if bits.Within(c.a, c.b) != c.is {
			t.Errorf("Within(%b, %b)", c.a, c.b)
		}
	}
}

// P3.2
func TestEach(t *testing.T) {
	if got := slices.Collect(bits.Each(bits.Of(31, 0, 5))); !slices.Equal(got, []int{0, 5, 31}) {
		t.Errorf("Each = %v", got)
	}
	if got := slices.Collect(bits.Each(0)); len(got) != 0 {
		t.Errorf("Each of none = %v", got)
	}
	told := 0
	for n := range bits.Each(math.MaxUint32) {
		told++
		if n == 4 {
			break
		}
	}
	if told != 5 {
		t.Errorf("Each goes on behind a break: %d", told)
	}
}

// P3.3
func TestShowAndRead(t *testing.T) {
	for s, want := range map[uint32]string{0: "-", 1: "0", 41: "0,3,5", 1 << 31: "31", 3 << 30: "30,31", 1<<10 | 4: "2,10"} {
		if got := bits.Show(s); got != want {
			t.Errorf("Show(%b) = %q", s, got)
		}
	}
	for _, s := range []string{"", "3,0", "3,3", "32", "-1", "0,", ",0", "0,,1", "0, 1", " 0", "00", "01", "0,-", "-,0", "--", "a", "0;1", strings.Repeat("1,", 400), strings.Repeat("9", 400)} {
		if got, ok := bits.Read(s); ok || got != 0 {
			t.Errorf("Read(%q) = %b, %v", s, got, ok)
		}
	}
}

// P3.4
func TestReadOfShow(t *testing.T) {
	s := uint32(1)
	for range 2000 {
		s = s*1664525 + 1013904223
		for _, x := range []uint32{s, s & (s >> 7), 1 << (s % 32), 0, math.MaxUint32} {
			if got, ok := bits.Read(bits.Show(x)); !ok || got != x {
				t.Fatalf("Read of %q = %b, %v", bits.Show(x), got, ok)
			}
		}
		n := int(s) * 255 % (api.MaxNum + 1)
		for _, n := range []int{n, n >> 20, 0, api.MaxNum} {
			if got, ok := bits.Int(bits.Tens(n), api.MaxNum); !ok || got != n {
				t.Fatalf("Int of %q = %d, %v", bits.Tens(n), got, ok)
			}
		}
	}
}
