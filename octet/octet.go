// Package octet is layer 2: see shared/doc/02-octet.md.
package octet

import (
	"antiphon/api"
)

// limit keeps how many bytes a number has within what 64 bits hold.
func limit(n int) int {
	return min(max(n, 1), 8)
}

// Reader takes numbers and bytes from the front of a text; an error stays.
type Reader struct {
	left string // empty once there is an error
	err  api.Errno
}

// Read: all of a text.
func Read(s string) *Reader {
	return &Reader{left: s}
}

// Len: how many bytes are left.
func (r *Reader) Len() int {
	return len(r.left)
}

// Err: the error.
func (r *Reader) Err() api.Errno {
	return r.err
}

// Fail: an error, if there is none.
func (r *Reader) Fail(e api.Errno) {
	if r.err == api.OK && e != api.OK {
		r.err = e
		r.left = ""
	}
}

// Bytes: so many.
func (r *Reader) Bytes(n int) string {
	if n < 0 {
		r.Fail(api.ErrArg)
		return ""
	}
	if n > len(r.left) {
		r.Fail(api.ErrEnd)
		return ""
	}
	s := r.left[:n]
	r.left = r.left[n:]
	return s
}

// Num: a number of so many bytes (1 to 8), the highest first.
func (r *Reader) Num(n int) uint64 {
	s := r.Bytes(limit(n))
	var x uint64
	for i := range len(s) {
		x = x<<8 | uint64(s[i])
	}
	return x
}

// U8: a number of one byte.
func (r *Reader) U8() byte {
	return byte(r.Num(1))
}

// U16: of two.
func (r *Reader) U16() uint16 {
	return uint16(r.Num(2))
}

// U32: of four.
func (r *Reader) U32() uint32 {
	return uint32(r.Num(4))
}

// Rest: all that is left.
func (r *Reader) Rest() string {
	return r.Bytes(len(r.left))
}

// End: ErrForm, if something is left.
func (r *Reader) End() api.Errno {
	if len(r.left) > 0 {
		r.Fail(api.ErrForm)
	}
	return r.err
}

// Writer puts numbers and bytes behind each other.
type Writer struct {
	bytes []byte
}

// Num: numbers of so many bytes (1 to 8) each, the highest first.
func (w *Writer) Num(n int, l ...uint64) *Writer {
	n = limit(n)
	for _, x := range l {
		for i := n - 1; i >= 0; i-- {
			w.bytes = append(w.bytes, byte(x>>(8*i)))
		}
	}
	return w
}

// U8: numbers of one byte.
func (w *Writer) U8(l ...byte) *Writer {
	w.bytes = append(w.bytes, l...)
	return w
}

// U16: of two.
func (w *Writer) U16(l ...uint16) *Writer {
	for _, x := range l {
		w.Num(2, uint64(x))
	}
	return w
}

// U32: of four.
func (w *Writer) U32(l ...uint32) *Writer {
	for _, x := range l {
		w.Num(4, uint64(x))
	}
	return w
}

// Put: bytes.
func (w *Writer) Put(l ...string) *Writer {
	for _, s := range l {
		w.bytes = append(w.bytes, s...)
	}
	return w
}

// Pad: zeros, up to a multiple of so many bytes (1 at least).
func (w *Writer) Pad(to int) *Writer {
	to = max(to, 1)
	for len(w.bytes)%to != 0 {
		w.bytes = append(w.bytes, 0)
	}
	return w
}

// Len: how many bytes.
func (w *Writer) Len() int {
	return len(w.bytes)
}

// Text: all of them.
func (w *Writer) Text() string {
	return string(w.bytes)
}
