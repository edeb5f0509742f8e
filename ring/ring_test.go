package ring_test

import (
	"math"
	"slices"
	"strings"
	"testing"

	"offprint/api"
	"offprint/disk"
	"offprint/piece"
	"offprint/ring"
	"offprint/sample"
)

const life = 1<<32 - 1

func rec(n int) string { return strings.Repeat("r", n) }

// lay writes a piece where it stands on a ring of n sectors from 1 on.
func lay(d *disk.Disk, n int, p piece.Piece) {
	d.Write(1+p.Place%n, piece.Put(p))
	d.Sync()
}

// P37.1
func TestNew(t *testing.T) {
	d := disk.New(5)
	for _, x := range [][4]int{{0, 5, 0, 1}, {4, 1, api.MaxNum - 1, life}, {2, 3, 7, 9}} {
		r := ring.New(d, x[0], x[1], x[2], x[3])
		if r == nil || r.Head() != x[2] || r.Tail() != x[2] || r.Free() != x[1] {
			t.Errorf("New(%v)", x)
		}
	}
	for _, x := range [][4]int{{-1, 3, 0, 1}, {0, 0, 0, 1}, {0, -1, 0, 1}, {0, 6, 0, 1}, {1, 5, 0, 1}, {5, 1, 0, 1}, {0, 5, -1, 1}, {0, 5, api.MaxNum, 1}, {0, 5, 0, 0}, {0, 5, 0, life + 1}, {0, 5, 0, -1}, {math.MaxInt, 3, 0, 1}, {3, math.MaxInt, 0, 1}, {math.MinInt, math.MaxInt, 0, 1}} {
		if ring.New(d, x[0], x[1], x[2], x[3]) != nil {
			t.Errorf("New(%v) is a ring", x)
		}
		if r, l, err := ring.Open(d, x[0], x[1], x[2], x[3]); r != nil || l != nil || err != api.ErrArg {
			t.Errorf("Open(%v) = %v, %v, %d", x, r, l, err)
		}
	}
	if ring.New(nil, 0, 1, 0, 1) != nil {
		t.Errorf("New without a disk is a ring")
	}
	if _, _, err := ring.Open(nil, 0, 1, 0, 1); err != api.ErrArg {
		t.Errorf("Open without a disk = %d", err)
	}
	d.Fuse(0)
	d.Sync()
	if r, l, err := ring.Open(d, 0, 5, 0, 1); r != nil || l != nil || err != api.ErrPower {
		t.Errorf("Open without power = %d", err)
	}
	if _, _, err := ring.Open(d, 0, 6, 0, 1); err != api.ErrArg {
		t.Errorf("Open of what may not be, without power = %d", err)
	}
}

// P37.2
func TestAdd(t *testing.T) {
	r := ring.New(disk.New(3), 0, 3, 0, 1)
	if r.Add(rec(104)) != api.OK || r.Add(rec(53)) != api.ErrFull || r.Free() != 1 || r.Tail() != 2 || r.Add(rec(52)) != api.OK || r.Free() != 0 || r.Add("") != api.ErrFull {
		t.Errorf("the example")
	}
	d := disk.New(5)
	r = ring.New(d, 1, 3, 4, 6)
	r.Add("abc")
	r.Add(rec(60))
	if d.Waiting() != 3 || r.Head() != 4 || r.Tail() != 7 || r.Free() != 0 {
		t.Errorf("Add syncs, or stands elsewhere")
	}
	for at, want := range map[int]piece.Piece{2: {Life: 6, Place: 4, First: true, Last: true, Body: "abc"}, 3: {Life: 6, Place: 5, First: true, Body: rec(52)}, 1: {Life: 6, Place: 6, Last: true, Body: rec(8)}} {
		s, _ := d.Read(at)
		if got, ok := piece.Get(s); !ok || got != want {
			t.Errorf("in the sector %d stands %v", at, got)
		}
	}
	for at := range 5 {
		if s, _ := d.Read(at); (at == 0 || at == 4) && s != strings.Repeat("\x00", 64) {
			t.Errorf("the sector %d outside of the ring is written", at)
		}
	}
	for _, x := range []struct {
		head int
		ok   bool
		is   int
	}{{3, false, 4}, {-1, false, 4}, {8, false, 4}, {math.MaxInt, false, 4}, {4, true, 4}, {5, true, 5}, {4, false, 5}, {7, true, 7}} {
		if r.Move(x.head) != x.ok || r.Head() != x.is || r.Free() != 3-(7-x.is) {
			t.Errorf("Move(%d): the head is %d", x.head, r.Head())
		}
	}
	for _, x := range []struct {
		life int
		ok   bool
	}{{5, false}, {0, false}, {life + 1, false}, {6, true}, {9, true}, {8, false}, {life, true}, {life, true}} {
		if r.Raise(x.life) != x.ok {
			t.Errorf("Raise(%d)", x.life)
		}
	}
	r.Add("last")
	s, _ := d.Read(2)
	if got, _ := piece.Get(s); got != (piece.Piece{Life: life, Place: 7, First: true, Last: true, Body: "last"}) {
		t.Errorf("behind Raise stands %v", got)
	}
	r = ring.New(disk.New(9), 0, 9, api.MaxNum-2, 1)
	if r.Add(rec(105)) != api.ErrFull || r.Tail() != api.MaxNum-2 || r.Add(rec(104)) != api.OK || r.Add("") != api.ErrFull || r.Free() != 7 {
		t.Errorf("the last places")
	}
}

// P37.2
func TestAddWithoutPower(t *testing.T) {
	d := disk.New(5)
	r := ring.New(d, 0, 5, 0, 1)
	d.Fuse(1)
	if r.Add(rec(60)) != api.ErrPower || r.Tail() != 0 || r.Free() != 5 || d.Waiting() != 2 {
		t.Errorf("Add when the power goes: the tail is %d", r.Tail())
	}
	if r.Add("x") != api.ErrPower || r.Add(rec(999)) != api.ErrFull {
		t.Errorf("Add without power")
	}
	for _, r := range []*ring.Ring{nil} {
		if r.Add("x") != api.ErrState || r.Move(0) || r.Raise(1) || r.Head() != 0 || r.Tail() != 0 || r.Free() != 0 {
			t.Errorf("a nil ring")
		}
	}
}

// P37.1
func TestWhatStands(t *testing.T) {
	const n = 6
	one := func(life, place int, body string) piece.Piece {
		return piece.Piece{Life: life, Place: place, First: true, Last: true, Body: body}
	}
	two := piece.Cut(4, 9, rec(60))
	for i, x := range []struct {
		l    []piece.Piece
		head int
		want []string
		tail int
	}{
		{nil, 8, nil, 8}, {[]piece.Piece{one(4, 8, "a")}, 8, []string{"a"}, 9}, {[]piece.Piece{one(4, 8, "a"), two[0], two[1], one(5, 11, "b")}, 8, []string{"a", rec(60), "b"}, 12}, {[]piece.Piece{one(4, 8, "a"), two[0], two[1], one(5, 11, "b")}, 9, []string{rec(60), "b"}, 12},
		{[]piece.Piece{one(4, 8, "a"), two[0], two[1], one(5, 11, "b")}, 10, nil, 10}, {[]piece.Piece{one(4, 8, "a"), one(3, 9, "b")}, 8, []string{"a"}, 9}, {[]piece.Piece{one(4, 8, "a"), one(8, 9, "b")}, 8, []string{"a"}, 9}, {[]piece.Piece{one(8, 8, "a")}, 8, nil, 8}, {[]piece.Piece{one(7, 8, "a"), one(7, 9, "b")}, 8, []string{"a", "b"}, 10}, {[]piece.Piece{one(5, 8, "a"), two[0], two[1]}, 8, []string{"a"}, 9},
		{[]piece.Piece{one(4, 8, "a"), two[0]}, 8, []string{"a"}, 9}, {[]piece.Piece{one(4, 8, "a"), two[0], one(4, 10, "c")}, 8, []string{"a"}, 9}, {[]piece.Piece{one(4, 8, "a"), two[0], {Life: 5, Place: 10, Last: true, Body: rec(8)}, one(5, 11, "d")}, 8, []string{"a"}, 9}, {[]piece.Piece{one(4, 8, "a"), two[1]}, 8, []string{"a"}, 9}, {[]piece.Piece{one(4, 14, "a")}, 8, nil, 8}, {[]piece.Piece{one(4, 8, "a"), one(4, 10, "c")}, 8, []string{"a"}, 9},
		{[]piece.Piece{one(4, 8, "a"), {Life: 4, Place: 9, First: true, Body: "short"}, {Life: 4, Place: 10, Last: true, Body: "b"}}, 8, []string{"a"}, 9},
		{[]piece.Piece{one(1, 8, "a"), one(1, 9, "b"), one(1, 10, "c"), one(1, 11, "d"), one(1, 12, "e"), one(1, 13, "f")}, 8, []string{"a", "b", "c", "d", "e", "f"}, 14},
		{[]piece.Piece{one(1, 9, "b"), one(1, 10, "c"), one(1, 11, "d"), one(1, 12, "e"), one(1, 13, "f"), one(1, 14, "g")}, 9, []string{"b", "c", "d", "e", "f", "g"}, 15},
	} {
		d := disk.New(n + 2)
		for _, p := range x.l {
			lay(d, n, p)
		}
		r, got, err := ring.Open(d, 1, n, x.head, 7)
		if err != api.OK || !slices.Equal(got, x.want) || r.Tail() != x.tail || r.Head() != x.head || r.Free() != n-(x.tail-x.head) {
			t.Errorf("Open %d = %q, %d; want %q", i, got, err, x.want)
		}
		if r.Raise(6) || !r.Raise(7) {
			t.Errorf("the life of the ring %d", i)
		}
	}
	d := disk.New(3)
	lay(d, 2, one(1, 0, "a"))
	d.Write(2, piece.Put(one(1, 1, "b")))
	if _, got, _ := ring.Open(d, 1, 2, 0, 1); !slices.Equal(got, []string{"a", "b"}) {
		t.Errorf("what waits is not read: %q", got)
	}
	d.Crash([]int{2})
	if r, got, err := ring.Open(d, 1, 2, 0, 1); err != api.OK || !slices.Equal(got, []string{"a"}) || r.Tail() != 1 {
		t.Errorf("Open of a bad sector = %q, %d", got, err)
	}
}

// P37.3
func TestFalls(t *testing.T) {
	s := sample.New(37)
	for range 1500 {
		n := 4 + s.Below(20)
		d := disk.New(n + 1)
		head := s.Below(50)
		r := ring.New(d, 1, n, head, 1)
		var synced, others []string
		for age := 1; age < 5; age++ {
			if s.Below(2) == 0 {
				d.Fuse(s.Below(14))
			}
			for range s.Below(9) {
				x := string(s.Bytes(s.Below(130)))
				switch err := r.Add(x); err {
				case api.OK, api.ErrPower:
					others = append(others, x)
				}
				if s.Below(3) == 0 && d.Sync() == api.OK {
					synced, others = append(synced, others...), nil
				}
				if d.Dead() {
					break
				}
			}
			var keep []int
			for range 14 {
				keep = append(keep, s.Below(3))
			}
			d.Crash(keep)
			var got []string
			var err api.Errno
			r, got, err = ring.Open(d, 1, n, head, age)
			if err != api.OK || len(got) < len(synced) || len(got) > len(synced)+len(others) || !slices.Equal(got, append(slices.Clone(synced), others...)[:len(got)]) {
				t.Fatalf("opened with %d records, %d synced, %d others", len(got), len(synced), len(others))
			}
			if !r.Raise(age + 1) {
				t.Fatalf("Raise")
			}
			synced, others = got, nil
		}
	}
}
