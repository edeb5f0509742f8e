package root_test

import (
	"math"
	"strings"
	"testing"

	"offprint/api"
	"offprint/disk"
	"offprint/root"
	"offprint/sample"
	"offprint/sum"
)

const most = 1<<32 - 1

func sealed(s string) string { return string(sum.Seal([]byte(s + strings.Repeat("\x00", 60-len(s))))) }

// P38.1
func TestSectors(t *testing.T) {
	for _, x := range []struct {
		x    root.Root
		want string
	}{
		{root.Root{1, 1, 0}, sealed("root\x01\x01\x00")}, {root.Root{300, 2, 7}, sealed("root\xac\x02\x02\x07")}, {root.Root{most, most, api.MaxNum - 1}, sealed("root\xff\xff\xff\xff\x0f\xff\xff\xff\xff\x0f\xff\xff\xff\xff\xff\x1f")},
	} {
		if !root.Check(x.x) {
			t.Errorf("Check(%v) is false", x.x)
		}
		if got := root.Put(x.x); got != x.want {
			t.Errorf("Put(%v) = %q", x.x, got)
		}
		if got, ok := root.Get(x.want); !ok || got != x.x {
			t.Errorf("Get = %v, %v; want %v", got, ok, x.x)
		}
	}
	for _, x := range []root.Root{{}, {0, 1, 0}, {1, 0, 0}, {-1, 1, 0}, {1, -1, 0}, {1, 1, -1}, {most + 1, 1, 0}, {1, most + 1, 0}, {1, 1, api.MaxNum}, {math.MaxInt, math.MinInt, 0}} {
		if root.Check(x) || root.Put(x) != "" {
			t.Errorf("%v may be", x)
		}
	}
	good := root.Put(root.Root{1, 1, 5})
	for i, s := range []string{
		"", good[:63], good + "\x00", sealed(""), sealed("Root\x01\x01\x05"), sealed("root\x00\x01\x05"), sealed("root\x01\x00\x05"), sealed("root\x81\x00\x01\x05"), sealed("root\x80\x80\x80\x80\x10\x01\x05"), sealed("root\x01\x80\x80\x80\x80\x10\x05"), sealed("root\x01\x01\x80\x80\x80\x80\x80\x20"), sealed("root\x01\x01\x05\x01"), sealed("root\x01\x01\x05" + strings.Repeat("\x00", 52) + "\x01"),
		good[:63] + string(good[63]^1), good[:60] + "\x00\x00\x00\x00", sealed("root" + strings.Repeat("\xff", 56)), "root",
	} {
		if x, ok := root.Get(s); ok || x != (root.Root{}) {
			t.Errorf("Get %d = %v, %v", i, x, ok)
		}
	}
}

func load(t *testing.T, d *disk.Disk, want root.Root, err api.Errno) {
	t.Helper()
	if got, e := root.Load(d); got != want || e != err {
		t.Errorf("Load = %v, %d; want %v, %d", got, e, want, err)
	}
}

// P38.2
func TestLoadAndStore(t *testing.T) {
	d := disk.New(2)
	load(t, nil, root.Root{}, api.ErrState)
	load(t, d, root.Root{}, api.ErrBad)
	load(t, disk.New(1), root.Root{}, api.ErrBad)
	if root.Store(nil, root.Root{1, 1, 0}) != api.ErrState || root.Store(nil, root.Root{}) != api.ErrState || root.Store(d, root.Root{}) != api.ErrArg || root.Store(disk.New(1), root.Root{2, 1, 0}) != api.ErrArg {
		t.Errorf("Store of what may not be")
	}
	if root.Store(d, root.Root{1, 1, 0}) != api.OK || d.Waiting() != 0 {
		t.Errorf("Store")
	}
	load(t, d, root.Root{1, 1, 0}, api.OK)
	if s, _ := d.Read(1); s != root.Put(root.Root{1, 1, 0}) {
		t.Errorf("an odd root stands elsewhere")
	}
	root.Store(d, root.Root{2, 1, 7})
	load(t, d, root.Root{2, 1, 7}, api.OK)
	if s, _ := d.Read(0); s != root.Put(root.Root{2, 1, 7}) {
		t.Errorf("an even root stands elsewhere")
	}
	e := d.Clone()
	e.Write(0, strings.Repeat("x", 64))
	load(t, e, root.Root{1, 1, 0}, api.OK)
	e.Crash([]int{2})
	load(t, e, root.Root{1, 1, 0}, api.OK)
	e.Write(1, root.Put(root.Root{most, 1, 0}))
	load(t, e, root.Root{most, 1, 0}, api.OK)
	e.Crash([]int{2})
	load(t, e, root.Root{}, api.ErrBad)
	e = d.Clone()
	e.Write(1, root.Put(root.Root{2, 9, 9}))
	load(t, e, root.Root{2, 1, 7}, api.OK)
	d.Fuse(0)
	if root.Store(d, root.Root{3, 1, 0}) != api.ErrPower || root.Store(d, root.Root{0, 1, 0}) != api.ErrArg {
		t.Errorf("Store when the power goes")
	}
	load(t, d, root.Root{}, api.ErrPower)
	d.Crash(nil)
	load(t, d, root.Root{2, 1, 7}, api.OK)
	d.Fuse(1)
	if root.Store(d, root.Root{3, 1, 0}) != api.ErrPower {
		t.Errorf("Store when the power goes in the Sync")
	}
	d.Crash([]int{1})
	load(t, d, root.Root{3, 1, 0}, api.OK)
}

// P38.3
func TestFalls(t *testing.T) {
	s := sample.New(38)
	for seq := 1; seq < 40; seq++ {
		for fuse := range 4 {
			for keep := range 3 {
				d := disk.New(3)
				old, x := root.Root{seq, 1 + s.Below(most), s.Below(api.MaxNum)}, root.Root{seq + 1, 1 + s.Below(most), s.Below(api.MaxNum)}
				root.Store(d, old)
				d.Fuse(fuse)
				err := root.Store(d, x)
				d.Crash([]int{keep})
				got, e := root.Load(d)
				if e != api.OK || got != x && (got != old || err == api.OK) || (err == api.OK) != (fuse >= 2) {
					t.Fatalf("Load behind a fall = %v, %d; Store told %d", got, e, err)
				}
			}
		}
	}
}
