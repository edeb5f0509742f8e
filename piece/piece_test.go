package piece_test

import (
	"math"
	"slices"
	"strings"
	"testing"

	"offprint/api"
	"offprint/piece"
	"offprint/sample"
	"offprint/sum"
)

const life = 1<<32 - 1

var full = strings.Repeat("x", api.Load)

// P36.1
func TestCheckAndPut(t *testing.T) {
	sealed := func(s string) string {
		s += strings.Repeat("\x00", 62-len(s))
		x := sum.Of([]byte(s))
		return s + string([]byte{byte(x), byte(x >> 8)})
	}
	for _, x := range []struct {
		p    piece.Piece
		want string
	}{
		{piece.Piece{Life: 1}, sealed("\x01\x00\x00\x00\x00\x00\x00\x00\x00\x00")}, {piece.Piece{Life: 0x01020304, Place: 0x0506070809, First: true, Body: "abc"}, sealed("\x04\x03\x02\x01\x09\x08\x07\x06\x05\x43abc")},
		{piece.Piece{Life: life, Place: api.MaxNum - 1, Last: true, Body: full}, sealed("\xff\xff\xff\xff\xff\xff\xff\xff\xff\xb4" + full)}, {piece.Piece{Life: 7, Place: 300, First: true, Last: true, Body: "\x00"}, sealed("\x07\x00\x00\x00\x2c\x01\x00\x00\x00\xc1\x00")},
	} {
		if !piece.Check(x.p) {
			t.Errorf("Check(%v) is false", x.p)
		}
		if got := piece.Put(x.p); got != x.want {
			t.Errorf("Put(%v) = %q, want %q", x.p, got, x.want)
		}
		if got, ok := piece.Get(x.want); !ok || got != x.p {
			t.Errorf("Get = %v, %v; want %v", got, ok, x.p)
		}
	}
	for _, p := range []piece.Piece{{}, {Life: -1}, {Life: life + 1}, {Life: math.MinInt}, {Life: 1, Place: -1}, {Life: 1, Place: api.MaxNum}, {Life: 1, Place: math.MaxInt}, {Life: 1, Body: full + "x"}} {
		if piece.Check(p) || piece.Put(p) != "" {
			t.Errorf("%v may be", p)
		}
	}
	resum := func(s string) string { return sealed(s[:62]) }
	good := piece.Put(piece.Piece{Life: 1, Place: 2, First: true, Body: "abc"})
	for i, s := range []string{
		"", good[:63], good + "\x00", strings.Repeat("\x00", 64), resum("\x00\x00\x00\x00" + good[4:]), resum(good[:9] + "\x75" + good[10:]), resum(good[:9] + "\x7f" + good[10:]), resum(good[:13] + "\x01" + good[14:]), resum(good[:61] + "\x01" + good[62:]), good[:62] + "\x00\x00", good[:63] + string(good[63]^1), good[:62] + string(good[62]^1) + good[63:],
	} {
		if p, ok := piece.Get(s); ok || p != (piece.Piece{}) {
			t.Errorf("Get %d = %v, %v", i, p, ok)
		}
	}
	for i := range 62 * 8 {
		b := []byte(good)
		b[i/8] ^= 1 << (i % 8)
		if _, ok := piece.Get(string(b)); ok {
			t.Errorf("a sector with the bit %d turned is a piece", i)
		}
	}
}

// P36.1
func TestMany(t *testing.T) {
	for n, want := range map[int]int{math.MinInt: 1, -1: 1, 0: 1, 1: 1, 51: 1, 52: 1, 53: 2, 104: 2, 105: 3, 52 * 1000: 1000, 52*1000 + 1: 1001} {
		if got := piece.Many(n); got != want {
			t.Errorf("Many(%d) = %d", n, got)
		}
	}
}

// P36.2
func TestCut(t *testing.T) {
	want := []piece.Piece{{Life: 3, Place: 9, First: true, Body: full}, {Life: 3, Place: 10, Body: full}, {Life: 3, Place: 11, Last: true, Body: "y"}}
	if got := piece.Cut(3, 9, full+full+"y"); !slices.Equal(got, want) {
		t.Errorf("Cut = %v", got)
	}
	if got := piece.Cut(3, 9, ""); !slices.Equal(got, []piece.Piece{{Life: 3, Place: 9, First: true, Last: true}}) {
		t.Errorf("Cut of nothing = %v", got)
	}
	if got := piece.Cut(3, 9, full); !slices.Equal(got, []piece.Piece{{Life: 3, Place: 9, First: true, Last: true, Body: full}}) {
		t.Errorf("Cut of one piece = %v", got)
	}
	if got := piece.Cut(3, 9, full+full); len(got) != 2 || !got[1].Last || got[0].Last || got[1].First || got[1].Body != full {
		t.Errorf("Cut of two pieces = %v", got)
	}
	for _, x := range [][2]int{{0, 9}, {-1, 9}, {life + 1, 9}, {3, -1}, {3, api.MaxNum}, {3, api.MaxNum - 1}, {3, api.MaxNum - 2}, {3, math.MaxInt}, {3, math.MinInt}} {
		if got := piece.Cut(x[0], x[1], full+full+"y"); got != nil {
			t.Errorf("Cut(%v) = %v", x, got)
		}
	}
	if got := piece.Cut(life, api.MaxNum-3, full+full+"y"); len(got) != 3 {
		t.Errorf("Cut at the last places = %v", got)
	}
}

// P36.2, P36.3
func TestJoin(t *testing.T) {
	good := func() []piece.Piece { return piece.Cut(3, 9, full+full+full+"y") }
	for i, change := range []func(l []piece.Piece) []piece.Piece{
		func(l []piece.Piece) []piece.Piece { return nil }, func(l []piece.Piece) []piece.Piece { return l[1:] }, func(l []piece.Piece) []piece.Piece { return l[:3] }, func(l []piece.Piece) []piece.Piece { return slices.Delete(l, 1, 2) }, func(l []piece.Piece) []piece.Piece { l[1], l[2] = l[2], l[1]; return l }, func(l []piece.Piece) []piece.Piece { return append(l, l[3]) },
		func(l []piece.Piece) []piece.Piece { l[0].First = false; return l }, func(l []piece.Piece) []piece.Piece { l[3].Last = false; return l }, func(l []piece.Piece) []piece.Piece { l[1].First = true; return l }, func(l []piece.Piece) []piece.Piece { l[1].Last = true; return l }, func(l []piece.Piece) []piece.Piece { l[2].Life = 4; return l }, func(l []piece.Piece) []piece.Piece { l[2].Place = 12; return l }, func(l []piece.Piece) []piece.Piece { l[1].Body = "z"; return l }, func(l []piece.Piece) []piece.Piece { l[3].Body = ""; return l },
		func(l []piece.Piece) []piece.Piece { l[0].Body += "z"; return l }, func(l []piece.Piece) []piece.Piece { return []piece.Piece{{Place: 1, First: true, Last: true}} }, func(l []piece.Piece) []piece.Piece {
			return []piece.Piece{{Life: 1, Place: -1, First: true, Last: true}}
		},
	} {
		if got, ok := piece.Join(change(good())); ok || got != "" {
			t.Errorf("Join %d = %q, %v", i, got, ok)
		}
	}
	s := sample.New(36)
	for range 500 {
		rec, l, at := string(s.Bytes(s.Below(220))), 1+s.Below(life), s.Below(api.MaxNum-9)
		cut := piece.Cut(l, at, rec)
		if len(cut) != piece.Many(len(rec)) {
			t.Fatalf("%d pieces of %d bytes", len(cut), len(rec))
		}
		var got []piece.Piece
		for _, p := range cut {
			q, ok := piece.Get(piece.Put(p))
			if !ok || q != p {
				t.Fatalf("%v is got as %v", p, q)
			}
			got = append(got, q)
		}
		if back, ok := piece.Join(got); !ok || back != rec {
			t.Fatalf("a record is joined as %q", back)
		}
		if len(got) > 1 {
			i := s.Below(len(got))
			if _, ok := piece.Join(slices.Delete(slices.Clone(got), i, i+1)); ok {
				t.Fatalf("a record without a piece is joined")
			}
		}
	}
}
