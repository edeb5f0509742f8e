// Package octet is layer 1: numbers, texts and truths as bytes.
package octet

import "offprint/api"

// longest is how many bytes a number has at most.
const longest = 6

// fresh is a copy of b, so that what lies behind b's length is never written.
func fresh(b []byte, room int) []byte {
	out := make([]byte, len(b), len(b)+room)
	copy(out, b)
	return out
}

func number(out []byte, n int) []byte {
	n = min(max(n, 0), api.MaxNum)
	for n >= 128 {
		out = append(out, byte(n&127|128))
		n >>= 7
	}
	return append(out, byte(n))
}

// Num puts a number behind bytes.
func Num(b []byte, n int) []byte { return number(fresh(b, longest), n) }

// Str puts a text behind bytes.
func Str(b []byte, s string) []byte {
	out := number(fresh(b, longest+len(s)), len(s))
	return append(out, s...)
}

// Flag puts a truth behind bytes.
func Flag(b []byte, is bool) []byte {
	if is {
		return Num(b, 1)
	}
	return Num(b, 0)
}

// Reader takes numbers, texts and truths off bytes.
type Reader struct {
	b   []byte
	at  int
	err api.Errno
}

// New is a reader of a copy of bytes.
func New(b []byte) *Reader { return &Reader{b: fresh(b, 0)} }

// ready tells whether a read may take something.
func (r *Reader) ready() bool { return r != nil && r.err == api.OK }

// Num takes a number.
func (r *Reader) Num(most int) int {
	if !r.ready() {
		return 0
	}
	n, size, err := first(r.b[r.at:])
	if err == api.OK && (n > api.MaxNum || n > most) {
		err = api.ErrLong
	}
	if err != api.OK {
		r.err = err
		return 0
	}
	r.at += size
	return n
}

// first is the number that bytes begin with, and how many of them it has.
func first(b []byte) (int, int, api.Errno) {
	n := 0
	for i, c := range b {
		if i == longest {
			return 0, 0, api.ErrForm
		}
		n |= int(c&127) << (7 * i)
		if c < 128 {
			if c == 0 && i > 0 {
				return 0, 0, api.ErrForm
			}
			return n, i + 1, api.OK
		}
	}
	if len(b) >= longest {
		return 0, 0, api.ErrForm
	}
	return 0, 0, api.ErrShort
}

// Str takes a text.
func (r *Reader) Str(most int) string {
	if !r.ready() {
		return ""
	}
	from := r.at
	n := r.Num(most)
	if r.err == api.OK && n > r.Left() {
		r.at, r.err = from, api.ErrShort
	}
	if r.err != api.OK {
		return ""
	}
	s := string(r.b[r.at : r.at+n])
	r.at += n
	return s
}

// Flag takes a truth.
func (r *Reader) Flag() bool {
	if !r.ready() {
		return false
	}
	from := r.at
	n := r.Num(api.MaxNum)
	if n > 1 {
		r.at, r.err = from, api.ErrForm
		return false
	}
	return n == 1
}

// Fail notes an error.
func (r *Reader) Fail(e api.Errno) {
	if r.ready() {
		r.err = e
	}
}

// Left is how many bytes were not taken.
func (r *Reader) Left() int {
	if r == nil {
		return 0
	}
	return len(r.b) - r.at
}

// Err is the first error.
func (r *Reader) Err() api.Errno {
	if r == nil {
		return api.ErrArg
	}
	return r.err
}

// End is the first error, or that bytes are left.
func (r *Reader) End() api.Errno {
	if e := r.Err(); e != api.OK {
		return e
	}
	if r.Left() > 0 {
		return api.ErrForm
	}
	return api.OK
}
