package vault_test

import (
	"math"
	"slices"
	"strings"
	"testing"

	"offprint/api"
	"offprint/disk"
	"offprint/piece"
	"offprint/ring"
	"offprint/root"
	"offprint/sample"
	"offprint/vault"
)

const most = 1<<32 - 1

func rec(n int) string { return strings.Repeat("r", n) }

func look(t *testing.T, d *disk.Disk, text string, recs []string, err api.Errno) {
	t.Helper()
	if a, l, e := vault.Look(d); a != text || !slices.Equal(l, recs) || e != err {
		t.Errorf("Look = %.20q, %.20q, %d; want %.20q, %.20q, %d", a, l, e, text, recs, err)
	}
}

// P39.1
func TestFormat(t *testing.T) {
	if vault.Format(nil, "a") != api.ErrState || vault.Format(disk.New(2), "a") != api.ErrArg {
		t.Errorf("Format of no disk, or of a small one")
	}
	look(t, nil, "", nil, api.ErrState)
	look(t, disk.New(2), "", nil, api.ErrArg)
	look(t, disk.New(3), "", nil, api.ErrBad)
	for _, x := range []struct {
		size, n int
		want    api.Errno
	}{{3, 0, api.OK}, {3, 51, api.OK}, {3, 52, api.ErrFull}, {4, 52, api.OK}, {4, 103, api.OK}, {4, 104, api.ErrFull}} {
		d := disk.New(x.size)
		if err := vault.Format(d, rec(x.n)); err != x.want || d.Waiting() != 0 {
			t.Errorf("Format of %d bytes on %d sectors = %d", x.n, x.size, err)
		} else if err == api.OK {
			look(t, d, rec(x.n), nil, api.OK)
			if x, err := root.Load(d); err != api.OK || x != (root.Root{Seq: 1, Life: 1}) {
				t.Errorf("the root is %v", x)
			}
		}
	}
	for fuse := range 5 {
		d := disk.New(5)
		d.Fuse(fuse)
		if err := vault.Format(d, "a"); err != map[bool]api.Errno{true: api.OK, false: api.ErrPower}[fuse == 4] {
			t.Errorf("Format with the fuse %d = %d", fuse, err)
		}
	}
	d := disk.New(5)
	d.Fuse(0)
	d.Sync()
	look(t, d, "", nil, api.ErrPower)
	if vault.Format(d, rec(999)) != api.ErrFull || vault.Format(d, "a") != api.ErrPower {
		t.Errorf("Format without power")
	}
}

// P39.1, P39.2
func TestTheExample(t *testing.T) {
	d := disk.New(9)
	vault.Format(d, "a")
	v, text, recs, err := vault.Open(d)
	if v == nil || text != "a" || recs != nil || err != api.OK || v.Free() != 6 {
		t.Fatalf("Open = %q, %q, %d", text, recs, err)
	}
	if x, _ := root.Load(d); x != (root.Root{Seq: 2, Life: 2}) {
		t.Errorf("the root behind Open is %v", x)
	}
	if v.Add("b") != api.OK || v.Add("") != api.OK || v.Add(rec(60)) != api.OK || v.Free() != 2 || d.Waiting() != 0 {
		t.Errorf("Add")
	}
	look(t, d, "a", []string{"b", "", rec(60)}, api.OK)
	s, _ := d.Read(3)
	if p, ok := piece.Get(s); !ok || p != (piece.Piece{Life: 2, Place: 1, First: true, Last: true, Body: "\x01b"}) {
		t.Errorf("in the ring stands %v", p)
	}
	if v.Renew(rec(103)) != api.OK || v.Free() != 5 {
		t.Errorf("Renew: free is %d", v.Free())
	}
	look(t, d, rec(103), nil, api.OK)
	if x, _ := root.Load(d); x != (root.Root{Seq: 3, Life: 2, Head: 5}) {
		t.Errorf("the root behind Renew is %v", x)
	}
	if v.Add(rec(51)) != api.OK || v.Renew("c") != api.OK || v.Free() != 6 {
		t.Errorf("Add and Renew")
	}
	look(t, d, "c", nil, api.OK)
	if x, _ := root.Load(d); x != (root.Root{Seq: 4, Life: 2, Head: 8}) {
		t.Errorf("the root behind another Renew is %v", x)
	}
	w, text, recs, err := vault.Open(d)
	if text != "c" || recs != nil || err != api.OK || w.Free() != 6 || w.Add("d") != api.OK {
		t.Errorf("Open anew = %q, %q, %d", text, recs, err)
	}
	look(t, d, "c", []string{"d"}, api.OK)
}

// P39.1
func TestWhatLies(t *testing.T) {
	for i, x := range []struct {
		recs []string
		text string
		want []string
		err  api.Errno
	}{
		{nil, "", nil, api.ErrBad}, {[]string{"\x00a"}, "a", nil, api.OK}, {[]string{"\x01a"}, "", nil, api.ErrBad}, {[]string{""}, "", nil, api.ErrBad}, {[]string{"\x02a"}, "", nil, api.ErrBad}, {[]string{"\x00", "\x01b", "\x00c", "\x01"}, "", []string{"b", ""}, api.OK}, {[]string{"\x00a", ""}, "", nil, api.ErrBad}, {[]string{"\x00a", "\x01b", "\x02"}, "", nil, api.ErrBad}, {[]string{"\x00a", "\xff"}, "", nil, api.ErrBad},
	} {
		d := disk.New(9)
		r := ring.New(d, 2, 7, 3, 4)
		for _, rec := range x.recs {
			r.Add(rec)
		}
		root.Store(d, root.Root{Seq: 6, Life: 5, Head: 3})
		e := d.Clone()
		look(t, d, x.text, x.want, x.err)
		v, text, recs, err := vault.Open(d)
		if text != x.text || !slices.Equal(recs, x.want) || err != x.err || (v != nil) != (err == api.OK) {
			t.Errorf("Open %d = %q, %q, %d", i, text, recs, err)
		}
		if x, _ := root.Load(d); err != api.OK && x.Seq != 6 {
			t.Errorf("Open %d wrote beside an error", i)
		}
		e.Fuse(0)
		if look(t, e, x.text, x.want, x.err); e.Dead() {
			t.Errorf("Look %d writes", i)
		}
	}
}

// P39.2
func TestErrors(t *testing.T) {
	at := func(seq, life int) *disk.Disk {
		d := disk.New(6)
		ring.New(d, 2, 4, 0, 1).Add("\x00a")
		root.Store(d, root.Root{Seq: seq, Life: life})
		return d
	}
	for _, x := range []struct {
		seq, life int
		want      api.Errno
	}{{most, 1, api.ErrFull}, {1, most, api.ErrFull}, {most - 1, most - 1, api.OK}} {
		v, text, _, err := vault.Open(at(x.seq, x.life))
		if err != x.want || (v != nil) != (err == api.OK) || err != api.OK && text != "" {
			t.Errorf("Open of the root %d, %d = %d", x.seq, x.life, err)
		}
		if err == api.OK && (v.Renew("b") != api.ErrFull || v.Add("c") != api.OK || v.Renew("b") != api.ErrFull) {
			t.Errorf("Renew of the last root")
		}
	}
	d := at(1, 1)
	v, _, _, _ := vault.Open(d)
	if v.Add(rec(156)) != api.ErrFull || v.Renew(rec(156)) != api.ErrFull || v.Add(rec(155)) != api.OK || v.Add("") != api.ErrFull || v.Renew("") != api.ErrFull || v.Free() != 0 {
		t.Errorf("a vault that is full")
	}
	look(t, d, "a", []string{rec(155)}, api.OK)
	for fuse := range 3 {
		d := at(1, 1)
		v, _, _, _ := vault.Open(d)
		d.Fuse(fuse)
		want := api.ErrPower
		if fuse == 2 {
			want = api.OK
		}
		if v.Add("x") != want {
			t.Errorf("Add with the fuse %d", fuse)
		}
		d.Crash(nil)
		if want != api.OK && (v.Add("x") != api.ErrState || v.Renew("x") != api.ErrState) {
			t.Errorf("a vault goes on behind an error of the disk")
		}
	}
	for fuse := range 5 {
		d := at(1, 1)
		v, _, _, _ := vault.Open(d)
		d.Fuse(fuse)
		want := api.ErrPower
		if fuse == 4 {
			want = api.OK
		}
		if v.Renew("x") != want {
			t.Errorf("Renew with the fuse %d", fuse)
		}
		d.Crash(nil)
		if want != api.OK && (v.Add("x") != api.ErrState || v.Renew("x") != api.ErrState) {
			t.Errorf("a vault goes on behind an error of the disk")
		}
	}
	d = at(1, 1)
	v, _, _, _ = vault.Open(d)
	d.Fuse(0)
	if v.Add("x") != api.ErrPower || v.Add(rec(999)) != api.ErrState || v.Renew(rec(999)) != api.ErrState {
		t.Errorf("a vault that failed is asked for too much")
	}
	bad := disk.New(6)
	root.Store(bad, root.Root{Seq: most, Life: most})
	small := disk.New(2)
	small.Fuse(0)
	small.Sync()
	for d, want := range map[*disk.Disk]api.Errno{bad: api.ErrBad, small: api.ErrArg} {
		_, _, lookErr := vault.Look(d)
		if v, _, _, err := vault.Open(d); v != nil || err != want || lookErr != want {
			t.Errorf("Look and Open = %d, %d; want %d", lookErr, err, want)
		}
	}
	if vault.Format(small, "a") != api.ErrArg {
		t.Errorf("Format of a small disk without power")
	}
	d = at(1, 1)
	d.Fuse(1)
	if v, text, recs, err := vault.Open(d); v != nil || text != "" || recs != nil || err != api.ErrPower {
		t.Errorf("Open when the power goes = %d", err)
	}
	for _, v := range []*vault.Vault{nil} {
		if v.Add("x") != api.ErrState || v.Renew("x") != api.ErrState || v.Free() != 0 {
			t.Errorf("a nil vault")
		}
	}
	if v, _, _, err := vault.Open(nil); v != nil || err != api.ErrState {
		t.Errorf("Open of no disk = %d", err)
	}
	for n, want := range map[int]int{math.MinInt: 1, -1: 1, 0: 1, 51: 1, 52: 2, 103: 2, 104: 3, api.MaxNum: piece.Many(api.MaxNum + 1), api.MaxNum + 1: piece.Many(api.MaxNum + 1), math.MaxInt: piece.Many(api.MaxNum + 1)} {
		if got := vault.Many(n); got != want {
			t.Errorf("Many(%d) = %d", n, got)
		}
	}
}

// outcomes are all rows of what becomes of n writes, each done or not.
func outcomes(n int) (l [][]int) {
	for bits := range 1 << n {
		var keep []int
		for k := range n {
			keep = append(keep, bits>>k&1)
		}
		l = append(l, keep)
	}
	return l
}

// P39.3: what stayed of a record in one fall is no part of another one in the next fall.
func TestTwoFalls(t *testing.T) {
	start := disk.New(12)
	vault.Format(start, "a")
	for first := 1; first <= 3; first++ {
		for _, keep := range outcomes(first) {
			for second := 1; second <= 3; second++ {
				for _, again := range outcomes(second) {
					d := start.Clone()
					v, _, _, _ := vault.Open(d)
					x, y := strings.Repeat("x", 52*first-9), strings.Repeat("y", 52*second-5)
					d.Fuse(first)
					v.Add(x)
					d.Crash(keep)
					_, was, _ := vault.Look(d)
					v, _, _, _ = vault.Open(d)
					d.Fuse(second)
					v.Add(y)
					d.Crash(again)
					text, recs, err := vault.Look(d)
					if err != api.OK || text != "a" || !slices.Equal(recs, was) && !slices.Equal(recs, append(slices.Clone(was), y)) {
						t.Fatalf("behind %v, and %v, lies %q", keep, again, recs)
					}
				}
			}
		}
	}
}

// P39.3: Renews in a row, each of which may fall.
func TestRenewsInARow(t *testing.T) {
	for times := range 4 {
		for fuse := range 5 {
			for _, keep := range [][]int{nil, {1}, {2}, {1, 1}, {2, 2}, {0, 2}} {
				d := disk.New(8)
				vault.Format(d, "a")
				v, text, _, _ := vault.Open(d)
				for n := range times {
					text = strings.Repeat("t", n)
					if v.Renew(text) != api.OK || v.Add("r") != api.OK || v.Renew(text) != api.OK {
						t.Fatalf("Renew")
					}
				}
				d.Fuse(fuse)
				err := v.Renew("new")
				d.Crash(keep)
				got, recs, e := vault.Look(d)
				if e != api.OK || len(recs) != 0 || got != "new" && (got != text || err == api.OK) {
					t.Fatalf("behind %d Renews, and a fall in another one, lies %q, %q, %d", times, got, recs, e)
				}
			}
		}
	}
}

// P39.3, P39.4
func TestFalls(t *testing.T) {
	s := sample.New(39)
	for range 800 {
		d := disk.New(5 + s.Below(16))
		text := string(s.Bytes(s.Below(60)))
		if vault.Format(d, text) != api.OK {
			t.Fatalf("Format")
		}
		var recs []string
		check := func(name string, err api.Errno, newText string, newRecs []string) {
			a, l, e := vault.Look(d)
			isNew := a == newText && slices.Equal(l, newRecs)
			isOld := a == text && slices.Equal(l, recs)
			if e != api.OK || !isNew && (!isOld || err == api.OK) {
				t.Fatalf("%s told %d; behind it %q and %q lie there, %d; ahead %q and %q", name, err, a, l, e, text, recs)
			}
			text, recs = a, l
		}
		for range 12 {
			if s.Below(2) == 0 {
				d.Fuse(s.Below(4))
			}
			v, _, _, err := vault.Open(d)
			for err == api.OK && s.Below(6) > 0 {
				x := string(s.Bytes(s.Below(130)))
				newText, newRecs := text, append(slices.Clone(recs), x)
				if s.Below(3) == 0 {
					newText, newRecs = x, nil
					err = v.Renew(x)
				} else {
					err = v.Add(x)
				}
				if err == api.ErrFull {
					newText, newRecs, err = text, recs, api.OK
				}
				if d.Dead() {
					d.Crash([]int{s.Below(3), s.Below(3), s.Below(3), s.Below(3)})
					check("a step", err, newText, newRecs)
				} else {
					check("a step", err, newText, newRecs)
				}
			}
			d.Crash([]int{s.Below(3), s.Below(3)})
			check("an Open", err, text, recs)
		}
	}
}
