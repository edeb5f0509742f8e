package disk_test

import (
	"math"
	"strings"
	"testing"

	"offprint/api"
	"offprint/disk"
	"offprint/sample"
)

var (
	zero = strings.Repeat("\x00", api.Sector)
	a    = strings.Repeat("a", api.Sector)
	b    = strings.Repeat("b", api.Sector)
	c    = strings.Repeat("c", api.Sector)
)

func read(t *testing.T, d *disk.Disk, at int, want string, err api.Errno) {
	t.Helper()
	if got, e := d.Read(at); got != want || e != err {
		t.Errorf("Read(%d) = %.3q, %d; want %.3q, %d", at, got, e, want, err)
	}
}

// P35.1
func TestNew(t *testing.T) {
	for _, n := range []int{0, -1, api.MaxDisk + 1, math.MinInt, math.MaxInt} {
		if disk.New(n) != nil {
			t.Errorf("New(%d) is a disk", n)
		}
	}
	for _, n := range []int{1, 5, api.MaxDisk} {
		d := disk.New(n)
		if d.Size() != n || d.Dead() || d.Waiting() != 0 {
			t.Errorf("New(%d)", n)
		}
		read(t, d, 0, zero, api.OK)
		read(t, d, n-1, zero, api.OK)
		read(t, d, n, "", api.ErrArg)
		read(t, d, -1, "", api.ErrArg)
	}
}

// P35.1
func TestWriteAndSync(t *testing.T) {
	d := disk.New(3)
	for _, x := range []struct {
		at int
		b  string
	}{{-1, a}, {3, a}, {math.MaxInt, a}, {0, ""}, {0, a[1:]}, {0, a + "a"}} {
		if err := d.Write(x.at, x.b); err != api.ErrArg || d.Waiting() != 0 {
			t.Errorf("Write(%d) of %d bytes = %d", x.at, len(x.b), err)
		}
	}
	if d.Write(1, a) != api.OK || d.Write(1, b) != api.OK || d.Write(2, c) != api.OK || d.Waiting() != 3 {
		t.Errorf("Write")
	}
	read(t, d, 0, zero, api.OK)
	read(t, d, 1, b, api.OK)
	read(t, d, 2, c, api.OK)
	if d.Sync() != api.OK || d.Waiting() != 0 {
		t.Errorf("Sync")
	}
	read(t, d, 1, b, api.OK)
	d.Write(1, c)
	d.Crash(nil)
	read(t, d, 1, b, api.OK)
	read(t, d, 2, c, api.OK)
}

// P35.1
func TestFuse(t *testing.T) {
	d := disk.New(2)
	d.Fuse(2)
	if d.Write(0, a) != api.OK || d.Write(0, "") != api.ErrArg || d.Write(9, a) != api.ErrArg || d.Sync() != api.OK || d.Dead() {
		t.Errorf("the first two steps")
	}
	if d.Write(0, b) != api.ErrPower || !d.Dead() || d.Waiting() != 1 {
		t.Errorf("the third step")
	}
	read(t, d, 0, "", api.ErrPower)
	read(t, d, 9, "", api.ErrPower)
	if d.Write(0, c) != api.ErrPower || d.Write(9, "") != api.ErrPower || d.Sync() != api.ErrPower || d.Waiting() != 1 {
		t.Errorf("steps without power")
	}
	d.Crash([]int{1})
	read(t, d, 0, b, api.OK)
	if d.Dead() || d.Waiting() != 0 {
		t.Errorf("behind a crash")
	}
	for range 9 {
		if d.Write(0, c) != api.OK || d.Sync() != api.OK {
			t.Errorf("there is a fuse behind a crash")
		}
	}
	d.Fuse(1)
	if d.Write(1, a) != api.OK || d.Sync() != api.ErrPower || d.Waiting() != 1 {
		t.Errorf("a Sync at the fuse")
	}
	d.Crash([]int{2})
	read(t, d, 1, "", api.ErrBad)
	d.Fuse(0)
	d.Fuse(-7)
	if d.Write(1, a) != api.OK || d.Sync() != api.OK {
		t.Errorf("a fuse below 0")
	}
	read(t, d, 1, a, api.OK)
	d.Fuse(0)
	if d.Sync() != api.ErrPower {
		t.Errorf("a Sync at the fuse 0")
	}
}

// P35.2
func TestCrash(t *testing.T) {
	for i, x := range []struct {
		writes []string // of the sector 0
		keep   []int
		want   string
		err    api.Errno
	}{
		{[]string{a}, nil, zero, api.OK}, {[]string{a}, []int{0}, zero, api.OK}, {[]string{a}, []int{1}, a, api.OK}, {[]string{a}, []int{2}, "", api.ErrBad}, {[]string{a}, []int{3}, zero, api.OK}, {[]string{a}, []int{4}, a, api.OK}, {[]string{a}, []int{5}, "", api.ErrBad}, {[]string{a}, []int{-1}, zero, api.OK}, {[]string{a}, []int{-2}, zero, api.OK}, {[]string{a}, []int{math.MinInt}, zero, api.OK},
		{[]string{a, b}, []int{1, 1}, b, api.OK}, {[]string{a, b}, []int{1, 0}, a, api.OK}, {[]string{a, b}, []int{1}, a, api.OK}, {[]string{a, b}, []int{1, 2}, "", api.ErrBad}, {[]string{a, b}, []int{2, 1}, b, api.OK}, {[]string{a, b}, []int{2, 0}, "", api.ErrBad}, {[]string{a, b}, []int{0, 1, 2, 2}, b, api.OK}, {nil, []int{2}, zero, api.OK},
	} {
		d := disk.New(2)
		d.Write(1, c)
		d.Sync()
		for _, w := range x.writes {
			d.Write(0, w)
		}
		d.Crash(x.keep)
		read(t, d, 0, x.want, x.err)
		read(t, d, 1, c, api.OK)
		if d.Waiting() != 0 || d.Dead() {
			t.Errorf("Crash %d", i)
		}
	}
	d := disk.New(1)
	d.Write(0, a)
	d.Crash([]int{2})
	d.Write(0, b)
	read(t, d, 0, b, api.OK)
	d.Crash([]int{0})
	read(t, d, 0, "", api.ErrBad)
	d.Write(0, b)
	d.Sync()
	read(t, d, 0, b, api.OK)
}

// P35.2
func TestClone(t *testing.T) {
	d := disk.New(2)
	d.Write(0, a)
	d.Sync()
	d.Write(1, b)
	d.Fuse(1)
	e := d.Clone()
	if e.Size() != 2 || e.Waiting() != 1 || e.Dead() || e.Write(0, c) != api.OK || e.Sync() != api.ErrPower || !e.Clone().Dead() {
		t.Errorf("Clone")
	}
	read(t, d, 0, a, api.OK)
	if d.Waiting() != 1 || d.Dead() || d.Write(0, b) != api.OK || d.Write(0, b) != api.ErrPower {
		t.Errorf("a clone burns the fuse of the other one")
	}
	e.Crash([]int{1, 1})
	read(t, e, 0, c, api.OK)
	read(t, e, 1, b, api.OK)
	f := e.Clone()
	f.Write(1, a)
	f.Crash([]int{2})
	read(t, f.Clone(), 1, "", api.ErrBad)
	read(t, e, 1, b, api.OK)
}

// P35.2
func TestNilDisk(t *testing.T) {
	var d *disk.Disk
	d.Fuse(1)
	d.Crash([]int{1})
	read(t, d, 0, "", api.ErrState)
	if d.Size() != 0 || !d.Dead() || d.Clone() != nil || d.Waiting() != 0 || d.Write(0, a) != api.ErrState || d.Sync() != api.ErrState {
		t.Errorf("a nil disk")
	}
}

// P35.3
func TestWhatWasSyncedStays(t *testing.T) {
	s := sample.New(35)
	for range 3000 {
		d := disk.New(3)
		synced := [3]string{zero, zero, zero}
		last := synced
		may := map[int][]string{}
		if s.Below(3) > 0 {
			d.Fuse(s.Below(12))
		}
		for !d.Dead() && s.Below(15) > 0 {
			if s.Below(3) == 0 {
				if d.Sync() == api.OK {
					synced, may = last, map[int][]string{}
				}
				continue
			}
			at, x := s.Below(3), strings.Repeat(string(rune('a'+s.Below(26))), api.Sector)
			d.Write(at, x)
			last[at] = x
			may[at] = append(may[at], x)
		}
		var keep []int
		for range s.Below(12) {
			keep = append(keep, s.Below(7)-1)
		}
		d.Crash(keep)
		for at := range 3 {
			got, err := d.Read(at)
			ok := err == api.OK && got == synced[at] || err == api.ErrBad && len(may[at]) > 0
			for _, x := range may[at] {
				ok = ok || got == x
			}
			if !ok {
				t.Fatalf("the sector %d is %.3q, %d; synced was %.3q", at, got, err, synced[at])
			}
		}
	}
}
