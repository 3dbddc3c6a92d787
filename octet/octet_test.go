package octet

import (
	"math/rand"
	"strings"
	"testing"

	"antiphon/api"
)

// same fails the test if a reader has other bytes left, or another error.
func same(t *testing.T, what string, r *Reader, left int, e api.Errno) {
	t.Helper()
	if r.Len() != left || r.Err() != e {
		t.Errorf("%s: %d bytes left and error %d, want %d and %d", what, r.Len(), r.Err(), left, e)
	}
}

// P2.1: the Reader.

func TestReadTakesFromTheFront(t *testing.T) {
	r := Read("\x01\x02\x03\x04\x05\x06\x07\x08\x09\x0a\x0bxyz")
	same(t, "Read", r, 14, api.OK)
	if x := r.U8(); x != 1 {
		t.Errorf("U8: %x", x)
	}
	if x := r.U16(); x != 0x0203 {
		t.Errorf("U16: %x", x)
	}
	if x := r.U32(); x != 0x04050607 {
		t.Errorf("U32: %x", x)
	}
	if x := r.Num(3); x != 0x08090a {
		t.Errorf("Num(3): %x", x)
	}
	same(t, "after the numbers", r, 4, api.OK)
	if s := r.Bytes(2); s != "\x0bx" {
		t.Errorf("Bytes(2): %q", s)
	}
	if s := r.Bytes(0); s != "" {
		t.Errorf("Bytes(0): %q", s)
	}
	same(t, "after the bytes", r, 2, api.OK)
	if s := r.Rest(); s != "yz" {
		t.Errorf("Rest: %q", s)
	}
	same(t, "after Rest", r, 0, api.OK)
	if s := r.Rest(); s != "" {
		t.Errorf("Rest of nothing: %q", s)
	}
	if e := r.End(); e != api.OK {
		t.Errorf("End: %d", e)
	}
}

func TestReadExample(t *testing.T) {
	r := Read("\x01\x02\x03")
	if x := r.U16(); x != 258 {
		t.Errorf("U16: %d", x)
	}
	same(t, "U16", r, 1, api.OK)
}

func TestNumHasOneToEightBytes(t *testing.T) {
	text := "\xf1\xf2\xf3\xf4\xf5\xf6\xf7\xf8\xf9"
	for _, c := range []struct {
		n    int
		want uint64
		left int
	}{
		{-1 << 63, 0xf1, 8},
		{-1, 0xf1, 8},
		{0, 0xf1, 8},
		{1, 0xf1, 8},
		{2, 0xf1f2, 7},
		{3, 0xf1f2f3, 6},
		{4, 0xf1f2f3f4, 5},
		{5, 0xf1f2f3f4f5, 4},
		{6, 0xf1f2f3f4f5f6, 3},
		{7, 0xf1f2f3f4f5f6f7, 2},
		{8, 0xf1f2f3f4f5f6f7f8, 1},
		{9, 0xf1f2f3f4f5f6f7f8, 1},
		{1<<63 - 1, 0xf1f2f3f4f5f6f7f8, 1},
	} {
		r := Read(text)
		if got := r.Num(c.n); got != c.want {
			t.Errorf("Num(%d) = %x, want %x", c.n, got, c.want)
		}
		same(t, "Num", r, c.left, api.OK)
	}
}

func TestTooFewBytes(t *testing.T) {
	for i, c := range []struct {
		text string
		zero func(*Reader) bool
	}{
		{"", func(r *Reader) bool { return r.U8() == 0 }},
		{"a", func(r *Reader) bool { return r.U16() == 0 }},
		{"abc", func(r *Reader) bool { return r.U32() == 0 }},
		{"", func(r *Reader) bool { return r.Num(0) == 0 }},
		{"abcd", func(r *Reader) bool { return r.Num(5) == 0 }},
		{"abcdefg", func(r *Reader) bool { return r.Num(99) == 0 }},
		{"abc", func(r *Reader) bool { return r.Bytes(4) == "" }},
		{"abc", func(r *Reader) bool { return r.Bytes(1<<63-1) == "" }},
	} {
		r := Read(c.text)
		if !c.zero(r) {
			t.Errorf("%d: there is a result beside the error", i)
		}
		same(t, "too few", r, 0, api.ErrEnd)
	}
}

func TestBytesBelowZero(t *testing.T) {
	for _, n := range []int{-1, -1 << 63} {
		r := Read("abc")
		if s := r.Bytes(n); s != "" {
			t.Errorf("Bytes(%d): %q", n, s)
		}
		same(t, "Bytes below 0", r, 0, api.ErrArg)
	}
}

func TestFirstErrorPersists(t *testing.T) {
	for _, first := range []api.Errno{api.ErrArg, api.ErrBig, api.ErrEnd, api.ErrForm, 99, -1} {
		r := Read("abc")
		r.Fail(first)
		same(t, "Fail", r, 0, first)
		if r.U8() != 0 || r.U16() != 0 || r.U32() != 0 || r.Num(3) != 0 || r.Bytes(1) != "" || r.Bytes(0) != "" || r.Bytes(-1) != "" || r.Rest() != "" {
			t.Errorf("after %d a result is not zero", first)
		}
		r.Fail(api.ErrKind)
		r.Fail(api.OK)
		if e := r.End(); e != first {
			t.Errorf("End after %d: %d", first, e)
		}
		same(t, "after all calls", r, 0, first)
	}
}

func TestFailWithOkIsNothing(t *testing.T) {
	r := Read("abc")
	r.Fail(api.OK)
	same(t, "Fail(OK)", r, 3, api.OK)
	if x := r.U8(); x != 'a' {
		t.Errorf("U8: %x", x)
	}
}

func TestFailWhenNothingIsLeft(t *testing.T) {
	r := Read("a")
	r.U8()
	r.Fail(api.ErrKind)
	same(t, "Fail", r, 0, api.ErrKind)
	if e := r.End(); e != api.ErrKind {
		t.Errorf("End: %d", e)
	}
}

func TestEnd(t *testing.T) {
	if e := Read("").End(); e != api.OK {
		t.Errorf("End of nothing: %d", e)
	}
	r := Read("ab")
	r.U8()
	if e := r.End(); e != api.ErrForm {
		t.Errorf("End with a byte left: %d", e)
	}
	same(t, "after End", r, 0, api.ErrForm)
	if r.U8() != 0 || r.End() != api.ErrForm {
		t.Error("the error of End does not persist")
	}
}

// P2.1: the Writer.

func TestWriterAppends(t *testing.T) {
	var w Writer
	if w.Len() != 0 || w.Text() != "" {
		t.Errorf("the zero Writer has %q", w.Text())
	}
	if w.U8(1, 0xff) != &w || w.U16(0x0203) != &w || w.U32(0x04050607) != &w || w.Num(3, 0x08090a) != &w || w.Put("xy", "", "z") != &w || w.Pad(4) != &w {
		t.Error("a method does not return its Writer")
	}
	want := "\x01\xff\x02\x03\x04\x05\x06\x07\x08\x09\x0axyz\x00\x00"
	if w.Text() != want || w.Len() != len(want) {
		t.Errorf("Text: %q, Len: %d", w.Text(), w.Len())
	}
}

func TestWriterExample(t *testing.T) {
	var w Writer
	if s := w.U16(258).Text(); s != "\x01\x02" {
		t.Errorf("U16(258): %q", s)
	}
}

func TestWriterOfNothing(t *testing.T) {
	var w Writer
	w.U8().U16().U32().Num(3).Put().Pad(8).U8(nil...).Put([]string{}...)
	if w.Len() != 0 || w.Text() != "" {
		t.Errorf("Text: %q", w.Text())
	}
}

func TestWriterNumbersAreReduced(t *testing.T) {
	const x = 0xf1f2f3f4f5f6f7f8
	for _, c := range []struct {
		n    int
		want string
	}{
		{-1 << 63, "\xf8"},
		{-1, "\xf8"},
		{0, "\xf8"},
		{1, "\xf8"},
		{2, "\xf7\xf8"},
		{3, "\xf6\xf7\xf8"},
		{4, "\xf5\xf6\xf7\xf8"},
		{5, "\xf4\xf5\xf6\xf7\xf8"},
		{6, "\xf3\xf4\xf5\xf6\xf7\xf8"},
		{7, "\xf2\xf3\xf4\xf5\xf6\xf7\xf8"},
		{8, "\xf1\xf2\xf3\xf4\xf5\xf6\xf7\xf8"},
		{9, "\xf1\xf2\xf3\xf4\xf5\xf6\xf7\xf8"},
		{1<<63 - 1, "\xf1\xf2\xf3\xf4\xf5\xf6\xf7\xf8"},
	} {
		var w Writer
		if s := w.Num(c.n, x, x).Text(); s != c.want+c.want {
			t.Errorf("Num(%d): %x, want %x twice", c.n, s, c.want)
		}
	}
}

func TestWriterKeepsEachElement(t *testing.T) {
	var w Writer
	w.U8(0, 255, 1).U16(0, 65535, 1).U32(0, 1<<32-1, 1)
	want := "\x00\xff\x01" + "\x00\x00\xff\xff\x00\x01" + "\x00\x00\x00\x00\xff\xff\xff\xff\x00\x00\x00\x01"
	if s := w.Text(); s != want {
		t.Errorf("Text: %x", s)
	}
}

func TestPad(t *testing.T) {
	for _, c := range []struct{ length, to, want int }{
		{0, 4, 0},
		{1, 4, 4},
		{3, 4, 4},
		{4, 4, 4},
		{5, 4, 8},
		{5, 1, 5},
		{5, 0, 5},
		{5, -4, 5},
		{5, -1 << 63, 5},
		{5, 7, 7},
		{1, 1 << 20, 1 << 20},
	} {
		var w Writer
		w.Put(strings.Repeat("x", c.length)).Pad(c.to)
		want := strings.Repeat("x", c.length) + strings.Repeat("\x00", c.want-c.length)
		if w.Len() != c.want || w.Text() != want {
			t.Errorf("Pad(%d) after %d bytes: %d bytes, want %d", c.to, c.length, w.Len(), c.want)
		}
	}
}

func TestTextOutlivesLaterWrites(t *testing.T) {
	var w Writer
	l := []byte{1, 2}
	w.U8(l...)
	before := w.Text()
	l[0] = 9
	w.Put("more").Pad(64)
	if before != "\x01\x02" || !strings.HasPrefix(w.Text(), before) {
		t.Errorf("Text was %x, and is %x now", before, w.Text())
	}
}

// P2.2.

func TestWhatIsWrittenIsReadBack(t *testing.T) {
	random := rand.New(rand.NewSource(2))
	for range 2000 {
		var w Writer
		var reads []func(*Reader) bool
		for range random.Intn(20) {
			reads = append(reads, write(&w, random))
		}
		r := Read(w.Text())
		for i, ok := range reads {
			if !ok(r) {
				t.Fatalf("part %d of %x is not read back", i, w.Text())
			}
		}
		if e := r.End(); e != api.OK {
			t.Fatalf("End of %x: %d", w.Text(), e)
		}
	}
}

// write writes something, and returns what reads it back.
func write(w *Writer, random *rand.Rand) func(*Reader) bool {
	x := random.Uint64()
	switch random.Intn(5) {
	case 0:
		w.U8(byte(x))
		return func(r *Reader) bool { return r.U8() == byte(x) }
	case 1:
		w.U16(uint16(x))
		return func(r *Reader) bool { return r.U16() == uint16(x) }
	case 2:
		w.U32(uint32(x))
		return func(r *Reader) bool { return r.U32() == uint32(x) }
	case 3:
		n := random.Intn(8) + 1
		w.Num(n, x)
		return func(r *Reader) bool { return r.Num(n) == x<<(64-8*n)>>(64-8*n) }
	}
	s := strings.Repeat(string(rune('a'+x%26)), int(x>>60))
	w.Put(s)
	return func(r *Reader) bool { return r.Bytes(len(s)) == s }
}
