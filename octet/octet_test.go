package octet_test

import (
	"bytes"
	"math"
	"testing"

	"offprint/api"
	"offprint/octet"
)

// P1.1
func TestNumBytes(t *testing.T) {
	for _, c := range []struct {
		n    int
		want []byte
	}{
		{0, []byte{0}}, {1, []byte{1}}, {127, []byte{127}}, {128, []byte{128, 1}}, {300, []byte{172, 2}},
		{16383, []byte{255, 127}}, {16384, []byte{128, 128, 1}},
		{api.MaxNum, []byte{128, 128, 128, 128, 128, 32}}, {api.MaxNum - 1, []byte{255, 255, 255, 255, 255, 31}},
		{-1, []byte{0}}, {math.MinInt, []byte{0}},
		{api.MaxNum + 1, []byte{128, 128, 128, 128, 128, 32}}, {math.MaxInt, []byte{128, 128, 128, 128, 128, 32}},
	} {
		if got := octet.Num(nil, c.n); !bytes.Equal(got, c.want) {
			t.Errorf("Num(%d) = %v, want %v", c.n, got, c.want)
		}
		if got := octet.Num([]byte{9, 8}, c.n); !bytes.Equal(got, append([]byte{9, 8}, c.want...)) {
			t.Errorf("Num behind bytes of %d = %v", c.n, got)
		}
	}
	if got := octet.Str([]byte{7}, "ab"); !bytes.Equal(got, []byte{7, 2, 'a', 'b'}) {
		t.Errorf("Str = %v", got)
	}
	long := string(make([]byte, 300))
	if got := octet.Str(nil, long); !bytes.Equal(got, append([]byte{172, 2}, long...)) {
		t.Errorf("Str of a long text")
	}
	if got := octet.Flag(octet.Flag(nil, true), false); !bytes.Equal(got, []byte{1, 0}) {
		t.Errorf("Flag = %v", got)
	}
}

// P1.1: neither b's bytes nor what lies behind its length is touched.
func TestPutLeavesWhatItIsGiven(t *testing.T) {
	room := []byte{1, 2, 3, 4, 5, 6, 7, 8, 9}
	before := bytes.Clone(room)
	outs := [][]byte{octet.Num(room[:2], api.MaxNum), octet.Str(room[:2], "xyz"), octet.Flag(room[:2], true)}
	for i, out := range outs {
		out[0] = 99
		if !bytes.Equal(room, before) {
			t.Errorf("call %d changed what it was given: %v", i, room)
		}
	}
}

// P1.2
func TestNumErrors(t *testing.T) {
	for _, c := range []struct {
		b    []byte
		most int
		n    int
		err  api.Errno
		left int
	}{
		{[]byte{172, 2}, 300, 300, api.OK, 0},
		{[]byte{172, 2, 5}, 299, 0, api.ErrLong, 3},
		{[]byte{5}, 5, 5, api.OK, 0}, {[]byte{6}, 5, 0, api.ErrLong, 1},
		{[]byte{0}, 0, 0, api.OK, 0}, {[]byte{0}, -1, 0, api.ErrLong, 1},
		{nil, 9, 0, api.ErrShort, 0}, {[]byte{128}, 9, 0, api.ErrShort, 1}, {[]byte{255, 255, 255, 255, 255}, 9, 0, api.ErrShort, 5},
		{[]byte{128, 128, 128, 128, 128, 128}, 9, 0, api.ErrForm, 6}, {[]byte{128, 128, 128, 128, 128, 128, 1}, 9, 0, api.ErrForm, 7},
		{[]byte{128, 0}, 9, 0, api.ErrForm, 2}, {[]byte{128, 128, 128, 128, 128, 0}, 9, 0, api.ErrForm, 6},
		{[]byte{128, 128, 128, 128, 128, 32}, math.MaxInt, api.MaxNum, api.OK, 0},
		{[]byte{129, 128, 128, 128, 128, 32}, math.MaxInt, 0, api.ErrLong, 6},
		{[]byte{255, 255, 255, 255, 255, 127}, math.MaxInt, 0, api.ErrLong, 6},
	} {
		r := octet.New(c.b)
		if n := r.Num(c.most); n != c.n || r.Err() != c.err || r.Left() != c.left {
			t.Errorf("Num of %v, most %d = %d, %d, left %d", c.b, c.most, n, r.Err(), r.Left())
		}
	}
}

// P1.2
func TestStrAndFlagErrors(t *testing.T) {
	for _, c := range []struct {
		b    []byte
		most int
		s    string
		err  api.Errno
		left int
	}{
		{[]byte{2, 'a', 'b', 7}, 2, "ab", api.OK, 1}, {[]byte{2, 'a', 'b'}, 1, "", api.ErrLong, 3},
		{[]byte{2, 'a'}, 9, "", api.ErrShort, 2}, {[]byte{0}, 0, "", api.OK, 0}, {nil, 9, "", api.ErrShort, 0},
		{[]byte{130, 0, 'a', 'b'}, 9, "", api.ErrForm, 4}, {[]byte{9}, 5, "", api.ErrLong, 1},
	} {
		r := octet.New(c.b)
		if s := r.Str(c.most); s != c.s || r.Err() != c.err || r.Left() != c.left {
			t.Errorf("Str of %v, most %d = %q, %d, left %d", c.b, c.most, s, r.Err(), r.Left())
		}
	}
	for _, c := range []struct {
		b    []byte
		is   bool
		err  api.Errno
		left int
	}{
		{[]byte{1, 4}, true, api.OK, 1}, {[]byte{0}, false, api.OK, 0}, {[]byte{2}, false, api.ErrForm, 1},
		{nil, false, api.ErrShort, 0}, {[]byte{129, 0}, false, api.ErrForm, 2}, {[]byte{255, 255, 255, 255, 255, 127}, false, api.ErrLong, 6},
	} {
		r := octet.New(c.b)
		if is := r.Flag(); is != c.is || r.Err() != c.err || r.Left() != c.left {
			t.Errorf("Flag of %v = %v, %d, left %d", c.b, is, r.Err(), r.Left())
		}
	}
}

// P1.2, P1.3: reads behind an error take and tell nothing, and the first error stays.
func TestErrorStays(t *testing.T) {
	r := octet.New([]byte{2, 1, 1, 'x'})
	r.Num(1)
	if r.Num(9) != 0 || r.Str(9) != "" || r.Flag() || r.Left() != 4 || r.Err() != api.ErrLong || r.End() != api.ErrLong {
		t.Errorf("reads behind an error tell something")
	}
	r.Fail(api.ErrDeep)
	if r.Err() != api.ErrLong {
		t.Errorf("Fail took the first error's place")
	}
	r = octet.New([]byte{2, 1, 1, 'x'})
	r.Fail(api.ErrDeep)
	if r.Err() != api.ErrDeep || r.End() != api.ErrDeep || r.Num(9) != 0 || r.Flag() || r.Str(9) != "" || r.Left() != 4 {
		t.Errorf("Fail is not the reader's error")
	}
	r = octet.New([]byte{2, 3})
	if r.End() != api.ErrForm || r.Err() != api.OK || r.Num(9) != 2 || r.End() != api.ErrForm || r.Num(9) != 3 || r.End() != api.OK || r.Left() != 0 {
		t.Errorf("End")
	}
}

// P1.2: the reader's bytes are its own.
func TestReaderKeepsACopy(t *testing.T) {
	b := []byte{1, 2}
	r := octet.New(b)
	b[0], b[1] = 7, 7
	if r.Num(9) != 1 || r.Num(9) != 2 {
		t.Errorf("the reader's bytes changed with those that it was given")
	}
	part := []byte{3, 4}
	r = octet.New(part[:1])
	if r.Left() != 1 || r.Num(9) != 3 || r.Num(9) != 0 || r.Err() != api.ErrShort {
		t.Errorf("the reader went on behind the length")
	}
}

// P1.3
func TestNilReader(t *testing.T) {
	var r *octet.Reader
	r.Fail(api.ErrDeep)
	if r.Num(9) != 0 || r.Str(9) != "" || r.Flag() || r.Left() != 0 || r.Err() != api.ErrArg || r.End() != api.ErrArg {
		t.Errorf("a nil reader")
	}
}

// P1.4
func TestWhatWasPutIsRead(t *testing.T) {
	nums := []int{0, 1, 127, 128, 255, 300, 16383, 16384, 1 << 20, 1<<28 - 1, 1 << 28, 1<<35 - 1, 1 << 35, api.MaxNum - 1, api.MaxNum}
	for _, n := range nums {
		b := octet.Flag(octet.Str(octet.Num(octet.Str(nil, "ahead"), n), "text\x00\xff"), n%2 == 0)
		r := octet.New(append(b, 77, 200))
		if r.Str(5) != "ahead" || r.Num(n) != n || r.Str(6) != "text\x00\xff" || r.Flag() != (n%2 == 0) || r.Err() != api.OK || r.Left() != 2 {
			t.Errorf("%d is not read as it was put", n)
		}
	}
}
