package mask_test

import (
	"math"
	"slices"
	"strings"
	"testing"

	"offprint/api"
	"offprint/mask"
)

// P5.1
func TestCheck(t *testing.T) {
	for m := range uint32(1 << 11) {
		if mask.Check(m) != (m <= api.AllMask) {
			t.Errorf("Check(%b)", m)
		}
	}
	for _, m := range []uint32{1 << 31, math.MaxUint32, 1<<31 | 1} {
		if mask.Check(m) || mask.Show(m) != "" {
			t.Errorf("a mask %b may be", m)
		}
	}
}

// P5.1
func TestParts(t *testing.T) {
	m := uint32(1 | 8 | 128 | api.LabelBit)
	if got := mask.Fields(m); !slices.Equal(got, []int{0, 3, 7}) || !mask.Labels(m) {
		t.Errorf("Fields = %v", got)
	}
	if mask.Labels(m&^api.LabelBit) || len(mask.Fields(api.LabelBit)) != 0 || len(mask.Fields(0)) != 0 {
		t.Errorf("Labels and Fields")
	}
	if got := mask.Make(true, 7, 0, 3, 3); got != m {
		t.Errorf("Make = %b", got)
	}
	if got := mask.Make(false, -1, 8, 9, 31, 32, math.MaxInt, math.MinInt, 2); got != 4 || mask.Make(false) != 0 || mask.Make(true) != api.LabelBit {
		t.Errorf("Make of what is no field = %b", got)
	}
	if mask.Both(0b110101011, 0b101100110) != 0b100100010 || mask.Rest(0b110101011) != 0b001010100 || mask.Rest(0) != api.AllMask || mask.Rest(api.AllMask) != 0 {
		t.Errorf("Both and Rest")
	}
}

// P5.2
func TestShowAndRead(t *testing.T) {
	for m, want := range map[uint32]string{0: "-", 1: "0", 9 | api.LabelBit: "0,3,l", api.LabelBit: "l", api.AllMask: "0,1,2,3,4,5,6,7,l", 128: "7"} {
		if got := mask.Show(m); got != want {
			t.Errorf("Show(%b) = %q", m, got)
		}
	}
	for _, s := range []string{"", "l,0", "0,0", "3,0", "l,l", "8", "-1", "0,", ",", ",0", "0,,l", "L", "0,-", "-,l", "--", " 0", "0 ", "00", "0;l", "0,1,2,3,4,5,6,7,8,l", strings.Repeat("0,", 300)} {
		if m, ok := mask.Read(s); ok || m != 0 {
			t.Errorf("Read(%q) = %b, %v", s, m, ok)
		}
	}
}

// P5.3
func TestMakeOfParts(t *testing.T) {
	for m := range uint32(api.AllMask + 1) {
		if got := mask.Make(mask.Labels(m), mask.Fields(m)...); got != m {
			t.Errorf("Make of the parts of %b = %b", m, got)
		}
		if got, ok := mask.Read(mask.Show(m)); !ok || got != m {
			t.Errorf("Read of %q = %b, %v", mask.Show(m), got, ok)
		}
	}
}
