// Package sample makes cards, filters and edits from plain numbers, for tests: the same ones from the same number each time.
package sample

import "offprint/api"

// Source tells numbers, each of which comes of the one ahead.
type Source struct{ state uint64 }

// New is a source that begins at a number.
func New(from int) *Source {
	s := &Source{state: uint64(from)*0x9e3779b97f4a7c15 + 1}
	s.Below(2)
	return s
}

// Below is a number from 0 to n - 1.
func (s *Source) Below(n int) int {
	s.state = s.state*6364136223846793005 + 1442695040888963407
	x := s.state >> 11
	x ^= x >> 22
	return int(x % uint64(n))
}

// Bytes are n bytes.
func (s *Source) Bytes(n int) []byte {
	b := make([]byte, n)
	for i := range b {
		b[i] = byte(s.Below(256))
	}
	return b
}

// Value is a value that may be.
func (s *Source) Value() api.Value {
	switch s.Below(8) {
	case 0, 1, 2:
		return api.Value{Kind: api.Num, N: s.Below(4)}
	case 3:
		return api.Value{Kind: api.Num, N: s.Below(api.MaxNum + 1)}
	case 4, 5:
		const letters = "aAbBz"
		at := s.Below(len(letters))
		return api.Value{Kind: api.Text, S: letters[at:min(at+s.Below(3), len(letters))]}
	case 6:
		return api.Value{Kind: api.Text, S: string(s.Bytes(s.Below(api.MaxText + 1)))}
	}
	return api.Value{}
}

// Labels are some labels, the first ones more often.
func (s *Source) Labels() uint32 {
	l := uint32(s.Below(8))
	if s.Below(4) == 0 {
		l |= uint32(s.Below(1 << api.Labels))
	}
	return l
}

// Mask is a mask that may be, seldom 0.
func (s *Source) Mask() uint32 { return uint32(s.Below(api.AllMask + 1)) }

// Patch is a patch that may be.
func (s *Source) Patch() api.Patch { return s.PatchOf(uint32(1 + s.Below(api.AllMask))) }

// PatchOf is a patch of a mask.
func (s *Source) PatchOf(mask uint32) api.Patch {
	p := api.Patch{Mask: mask}
	if mask&api.LabelBit != 0 {
		p.Labels = s.Labels()
	}
	for f := range api.Fields {
		if mask&(1<<f) != 0 {
			p.F[f] = s.Value()
		}
	}
	return p
}

// Card is a card that may be.
func (s *Source) Card(id int) api.Card {
	c := api.Card{ID: id, Ver: 1 + s.Below(5), Labels: s.Labels()}
	for f := range api.Fields {
		c.F[f] = s.Value()
	}
	return c
}

// Cards are some cards, by rising numbers.
func (s *Source) Cards(n int) []api.Card {
	var l []api.Card
	id := 0
	for range n {
		id += 1 + s.Below(3)
		l = append(l, s.Card(id))
	}
	return l
}

// Filter is a filter that is at most that deep; it may be, if it is not too long.
func (s *Source) Filter(deep int) []api.Node {
	op := api.All + s.Below(api.Or)
	for op >= api.Not && deep <= 1 {
		op = api.All + s.Below(api.Or)
	}
	n := api.Node{Op: op}
	switch op {
	case api.Label, api.Member:
		n.N = s.Below(4)
	case api.Has:
		n.N = s.Below(3)
	case api.Equals, api.Less, api.More, api.Holds:
		n.N, n.V = s.Below(3), s.asked(op)
	}
	l := []api.Node{n}
	if op >= api.Not {
		l = append(l, s.Filter(deep-1)...)
	}
	if op > api.Not {
		l = append(l, s.Filter(deep-1)...)
	}
	return l
}

// Fit is a filter that may be.
func (s *Source) Fit() []api.Node {
	for {
		if l := s.Filter(1 + s.Below(5)); len(l) <= api.MaxNodes {
			return l
		}
	}
}

// asked is a value that may stand with a kind.
func (s *Source) asked(op int) api.Value {
	for {
		v := s.Value()
		if v.Kind == api.Text || v.Kind == api.Num && op != api.Holds {
			return v
		}
	}
}

// Edit is an edit that may be, of cards up to a number, and of few groups.
func (s *Source) Edit(cards int) api.Edit {
	e := api.Edit{Kind: api.Create + s.Below(api.Quit)}
	if s.Below(3) == 0 {
		e.Kind = api.Create + s.Below(2)
	}
	if e.Kind != api.Create && e.Kind != api.Open && e.Kind != api.Close {
		e.ID = 1 + s.Below(cards)
	}
	if e.Kind >= api.Open {
		e.Group = s.Below(4)
	}
	if e.Kind <= api.Write {
		e.Patch = s.Patch()
	}
	return e
}

// Cmd is a command that may be, of cards up to a number, and of requests up to a number.
func (s *Source) Cmd(cards, reqs int) api.Cmd {
	c := api.Cmd{Kind: api.DoEdit + s.Below(api.DoTrim)}
	if s.Below(2) == 0 {
		c.Kind = api.DoEdit + s.Below(2)
	}
	switch c.Kind {
	case api.DoEdit:
		c.Edit = s.Edit(cards)
		return c
	case api.DoTrim:
		c.Keep = s.Below(20)
		return c
	}
	c.Dev, c.Req = s.Below(api.MaxDevs), 1+s.Below(reqs)
	switch c.Kind {
	case api.DoPut:
		c.ID, c.Base, c.Patch = 1+s.Below(cards), 1+s.Below(3), s.PatchOf(1<<s.Below(api.Fields+1))
	case api.DoSub:
		c.Filter, c.Mask = s.Fit(), s.Mask()|7
	}
	return c
}
