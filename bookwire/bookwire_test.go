package bookwire_test

import (
	"bytes"
	"testing"

	"offprint/api"
	"offprint/book"
	"offprint/bookwire"
	"offprint/octet"
	"offprint/sample"
)

func some() api.Book {
	return api.Book{Seq: 300, Next: 5, Cards: []api.Card{{ID: 1, Ver: 1, Labels: 1}, {ID: 3, Ver: 2, F: [8]api.Value{1: {Kind: api.Num, N: 7}}}}, Dead: []api.Dead{{ID: 2, Ver: 4, Seq: 9}}, Groups: []api.Group{{No: 1, Members: []int{1, 3}}, {No: 15}}}
}

var wire = []byte{172, 2, 5, 2, 1, 1, 1, 0, 3, 2, 0, 2, 1, 7, 1, 2, 4, 9, 2, 1, 2, 1, 3, 15, 0}

// P21.1
func TestPut(t *testing.T) {
	room := []byte{99, 98, 97}
	if got := bookwire.Put(room[:1], api.Book{Next: 1}); !bytes.Equal(got, []byte{99, 0, 1, 0, 0, 0}) {
		t.Errorf("Put of a new book = %v", got)
	}
	if got := bookwire.Put(room[:1], some()); !bytes.Equal(got, append([]byte{99}, wire...)) {
		t.Errorf("Put = %v", got)
	}
	wrong := some()
	wrong.Next = 2
	for _, d := range []api.Book{{}, wrong, {Seq: -1, Next: 1}} {
		got := bookwire.Put(room[:1], d)
		if !bytes.Equal(got, []byte{99}) {
			t.Errorf("Put of %v = %v", d, got)
		}
		got[0] = 1
	}
	if !bytes.Equal(room, []byte{99, 98, 97}) {
		t.Errorf("Put touches what it was given")
	}
}

// P21.2
func TestReadErrors(t *testing.T) {
	num := func(b []byte, l ...int) []byte {
		for _, n := range l {
			b = octet.Num(b, n)
		}
		return b
	}
	for i, c := range []struct {
		b    []byte
		err  api.Errno
		left int
	}{
		{nil, api.ErrShort, 0}, {num(nil, 1), api.ErrShort, 0}, {num(nil, 1, api.MaxID+1), api.ErrLong, 5}, {num(nil, 1, 1), api.ErrShort, 0}, {num(nil, 1, 1, 49), api.ErrLong, 1}, {num(nil, 1, 1, 1, 0), api.ErrForm, 0}, {num(nil, 1, 1, 0, 41), api.ErrLong, 1},
		{num(nil, 1, 9, 0, 1, 1, 1), api.ErrShort, 0}, {num(nil, 1, 9, 0, 1, 0, 0, 0), api.ErrShort, 0}, {num(nil, 1, 9, 0, 1, api.MaxNum, api.MaxNum, api.MaxNum, 0), api.ErrForm, 0}, {append(num(nil, 1, 9, 0, 1), 129, 128, 128, 128, 128, 32), api.ErrLong, 6}, {num(nil, 1, 1, 0, 0, 17), api.ErrLong, 1}, {num(nil, 1, 1, 0, 0, 1, 16), api.ErrLong, 1},
		{num(nil, 1, 1, 0, 0, 1, 15, 49), api.ErrLong, 1}, {num(nil, 1, 1, 0, 0, 1, 15, 1, api.MaxID+1), api.ErrLong, 5}, {num(nil, 1, 1, 0, 0, 1, 15, 1, api.MaxID, 7), api.ErrForm, 1}, {num(nil, 1, 1, 0, 0, 1, 15, 1, 3), api.ErrForm, 0}, {num(nil, 1, 0, 0, 0, 0, 9), api.ErrForm, 1}, {num(nil, 1, 1, 0, 0, 2, 1, 0, 1, 0), api.ErrForm, 0},
		{num(nil, 1, 1, 0, 0, 2, 1, 0), api.ErrShort, 0},
	} {
		r := octet.New(c.b)
		if d := bookwire.Read(r); !book.Same(d, api.Book{}) || r.Err() != c.err || r.Left() != c.left {
			t.Errorf("Read %d of %v = %v, %d, left %d", i, c.b, d, r.Err(), r.Left())
		}
	}
	r := octet.New([]byte{0, 1, 0, 0, 0})
	r.Fail(api.ErrBad)
	if d := bookwire.Read(r); !book.Same(d, api.Book{}) || r.Err() != api.ErrBad || r.Left() != 5 || !book.Same(bookwire.Read(nil), api.Book{}) {
		t.Errorf("Read of a reader that had an error, or of none")
	}
}

// P21.3
func TestGreatest(t *testing.T) {
	d := api.Book{Seq: api.MaxNum, Next: api.MaxID}
	g := api.Group{No: 15}
	for id := range api.MaxCards {
		d.Cards = append(d.Cards, api.Card{ID: api.MaxID - 99 + id, Ver: api.MaxNum})
		g.Members = append(g.Members, api.MaxID-99+id)
	}
	for id := range api.MaxDead {
		d.Dead = append(d.Dead, api.Dead{ID: id + 1, Ver: api.MaxNum, Seq: api.MaxNum})
	}
	for no := range api.Groups - 1 {
		d.Groups = append(d.Groups, api.Group{No: no})
	}
	d.Groups = append(d.Groups, g)
	if got := bookwire.Read(octet.New(bookwire.Put(nil, d))); !book.Same(got, d) {
		t.Errorf("the greatest book is read as %v", got)
	}
}

// P21.3
func TestWhatWasPutIsRead(t *testing.T) {
	if got := bookwire.Read(octet.New(wire)); !book.Same(got, some()) {
		t.Errorf("Read = %v", got)
	}
	s := sample.New(21)
	b := book.New()
	read := 0
	for range 1500 {
		b.Do(s.Edit(b.Data().Next))
		w := bookwire.Put(nil, b.Data())
		r := octet.New(append(bytes.Clone(w), 255, 1))
		if d := bookwire.Read(r); !book.Same(d, b.Data()) || r.Left() != 2 || r.Err() != api.OK {
			t.Fatalf("%v is read as %v, %d", b.Data(), d, r.Err())
		}
		for range 1 + s.Below(3) {
			w[s.Below(len(w))] = byte(s.Below(20))
		}
		r = octet.New(w)
		if d := bookwire.Read(r); r.Err() == api.OK {
			read++
			if _, ok := book.Load(d); !ok || !bytes.Equal(bookwire.Put(nil, d), w[:len(w)-r.Left()]) {
				t.Fatalf("%v is read as %v", w, d)
			}
		}
	}
	if read < 100 {
		t.Errorf("too few were read: %d", read)
	}
}
