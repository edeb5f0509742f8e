package net_test

import (
	"math"
	"slices"
	"sync"
	"testing"

	"offprint/api"
	"offprint/net"
	"offprint/sample"
)

func p(from, to int, text string) net.Packet { return net.Packet{From: from, To: to, Text: text} }

func all(n *net.Net) (l []net.Packet) {
	for k := range n.Len() {
		x, _ := n.Look(k)
		l = append(l, x)
	}
	return l
}

// P46.1
func TestPackets(t *testing.T) {
	n := net.New()
	a, b, c := p(0, -1, "a"), p(-1, 0, "b"), p(3, -1, "")
	if n.Len() != 0 || n.Twice(0) {
		t.Errorf("a new net has packets")
	}
	for _, k := range []int{0, -1, 1, math.MaxInt, math.MinInt} {
		x, ok := n.Look(k)
		y, ok2 := n.Take(k)
		if ok || ok2 || x != (net.Packet{}) || y != (net.Packet{}) {
			t.Errorf("Look and Take of %d", k)
		}
	}
	if !n.Send(a) || !n.Send(b) || !n.Send(c) || n.Len() != 3 {
		t.Errorf("Send")
	}
	if !n.Twice(1) || n.Twice(4) || n.Twice(-1) || !slices.Equal(all(n), []net.Packet{a, b, c, b}) {
		t.Errorf("Twice: %v", all(n))
	}
	if x, ok := n.Take(1); !ok || x != b || !slices.Equal(all(n), []net.Packet{a, c, b}) {
		t.Errorf("Take = %v, %v: %v", x, ok, all(n))
	}
	if x, ok := n.Take(3); ok || x != (net.Packet{}) || n.Len() != 3 {
		t.Errorf("Take of none = %v, %v", x, ok)
	}
	if x, ok := n.Take(0); !ok || x != a || !slices.Equal(all(n), []net.Packet{c, b}) {
		t.Errorf("Take of the first one = %v, %v: %v", x, ok, all(n))
	}
}

// P46.1
func TestFull(t *testing.T) {
	n := net.New()
	for k := range api.MaxNet {
		if !n.Send(p(0, -1, string(rune('a'+k)))) {
			t.Fatalf("Send is false")
		}
	}
	before := all(n)
	if n.Send(p(1, 1, "x")) || n.Twice(0) || !slices.Equal(before, all(n)) {
		t.Errorf("a net that is full takes one more")
	}
	n.Take(5)
	if !n.Twice(0) || n.Len() != api.MaxNet {
		t.Errorf("Twice into the place of one")
	}
	var none *net.Net
	x, ok := none.Look(0)
	y, ok2 := none.Take(0)
	if none.Send(p(0, 0, "")) || none.Len() != 0 || ok || ok2 || x != (net.Packet{}) || y != (net.Packet{}) || none.Twice(0) {
		t.Errorf("a nil net")
	}
}

// P46.2
func TestAnyPackets(t *testing.T) {
	s := sample.New(46)
	n := net.New()
	var want []net.Packet
	for range 20000 {
		k := s.Below(len(want)+2) - 1
		is := k >= 0 && k < len(want)
		switch s.Below(3) {
		case 0:
			x := p(s.Below(7)-1, s.Below(7)-1, string(s.Bytes(2)))
			if n.Send(x) != (len(want) < api.MaxNet) {
				t.Fatalf("Send of %d packets", len(want))
			} else if len(want) < api.MaxNet {
				want = append(want, x)
			}
		case 1:
			x, ok := n.Take(k)
			if ok != is || is && x != want[k] {
				t.Fatalf("Take(%d) = %v, %v", k, x, ok)
			}
			if is {
				want = slices.Delete(want, k, k+1)
			}
		case 2:
			if s.Below(2) == 0 {
				continue
			}
			ok := n.Twice(k)
			if ok != (is && len(want) < api.MaxNet) {
				t.Fatalf("Twice(%d) = %v", k, ok)
			}
			if ok {
				want = append(want, want[k])
			}
		}
		if !slices.Equal(all(n), want) {
			t.Fatalf("the packets are %v, want %v", all(n), want)
		}
	}
}

// P46.1: many may send at once.
func TestAtOnce(t *testing.T) {
	n := net.New()
	var wg sync.WaitGroup
	for range 8 {
		wg.Go(func() {
			for range 4 {
				n.Send(p(0, -1, "x"))
				n.Len()
				n.Look(0)
			}
		})
	}
	wg.Wait()
	if n.Len() != 32 {
		t.Errorf("%d packets were sent", n.Len())
	}
}
