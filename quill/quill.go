// Package quill encodes numbers and strings as bytes, with exactly one form for each value. See shared/doc/01-quill.md.
package quill

import (
	"bytes"
	"math"
	"math/bits"

	"curfew/api"
)

// minus is added to the first byte of the encoding of a number below 0.
const minus = 128

// Writer collects the encodings of what is written to it.
type Writer struct{ all []byte }

// Num writes numbers.
func (w *Writer) Num(l ...uint64) {
	var b []byte
	for i := range len(l) {
		b = number(b, 0, l[i])
	}
	w.target()(b)
}

// Int writes signed numbers.
func (w *Writer) Int(l ...int64) {
	var b []byte
	for i := range len(l) {
		if l[i] < 0 {
			// The complement is -1 - n, and unlike -n it exists for the least number too.
			b = number(b, minus, uint64(^l[i]))
		} else {
			b = number(b, 0, uint64(l[i]))
		}
	}
	w.target()(b)
}

// Flag writes bools.
func (w *Writer) Flag(l ...bool) {
	var b []byte
	for i := range len(l) {
		if l[i] {
			b = number(b, 0, 1)
		} else {
			b = number(b, 0, 0)
		}
	}
	w.target()(b)
}

// Text writes a string.
func (w *Writer) Text(s string) {
	w.Num(uint64(len(s)))
	w.target()([]byte(s))
}

// Raw writes bytes unchanged.
func (w *Writer) Raw(b []byte) { w.target()(b) }

// Len returns how many bytes were written.
func (w *Writer) Len() int {
	if w == nil {
		return 0
	}
	return len(w.all)
}

// Bytes returns what was written, in new memory.
func (w *Writer) Bytes() []byte {
	if w == nil {
		return nil
	}
	return bytes.Clone(w.all)
}

// target chooses where bytes go, so that no other method has to ask whether there is a Writer.
func (w *Writer) target() func(b []byte) {
	if w == nil {
		return w.drop
	}
	return w.keep
}

func (w *Writer) keep(b []byte) { w.all = append(w.all, b...) }

func (w *Writer) drop(b []byte) {}

// number appends the encoding of n to b, with sign added to its first byte.
func number(b []byte, sign byte, n uint64) []byte {
	size := (bits.Len64(n) + 7) / 8
	b = append(b, sign+byte(size))
	for i := range size {
		b = append(b, byte(n>>(8*(size-1-i))))
	}
	return b
}

// Reader reads what a Writer wrote, from the first byte on.
type Reader struct {
	rest []byte
	bad  bool
}

// Open returns a Reader of b.
func Open(b []byte) *Reader { return &Reader{rest: bytes.Clone(b)} }

// Num reads a number that is at most most.
func (r *Reader) Num(most uint64) uint64 {
	n, below := r.number()
	if below || n > most {
		r.Fail()
		return 0
	}
	return n
}

// Int reads a signed number.
func (r *Reader) Int() int64 {
	n, below := r.number()
	if n > math.MaxInt64 {
		r.Fail()
		return 0
	}
	if below {
		return ^int64(n)
	}
	return int64(n)
}

// Flag reads a bool.
func (r *Reader) Flag() bool { return r.Num(1) == 1 }

// Text reads a string of at most most bytes.
func (r *Reader) Text(most int) string {
	if most < 0 {
		r.Fail()
		return ""
	}
	return string(r.take(r.Num(uint64(most))))
}

// Raw reads n bytes, into new memory.
func (r *Reader) Raw(n int) []byte {
	if n < 0 {
		r.Fail()
		return nil
	}
	return bytes.Clone(r.take(uint64(n)))
}

// Left returns how many bytes have not been read yet.
func (r *Reader) Left() int {
	if r == nil {
		return 0
	}
	return len(r.rest)
}

// Bad reports whether something could not be read.
func (r *Reader) Bad() bool { return r != nil && r.bad }

// Fail makes the Reader bad.
func (r *Reader) Fail() {
	if r != nil {
		r.rest, r.bad = nil, true
	}
}

// End returns OK if everything was read and nothing was bad.
func (r *Reader) End() api.Errno {
	switch {
	case r == nil:
		return api.ErrNil
	case r.bad || len(r.rest) > 0:
		return api.ErrForm
	}
	return api.OK
}

// number reads a number, and whether minus was added to its first byte. It fails unless its bytes are as few as possible, since each value has one form only.
func (r *Reader) number() (n uint64, below bool) {
	head := r.take(1)
	if len(head) == 0 {
		return 0, false
	}
	size := head[0] &^ minus
	if size > 8 {
		r.Fail()
		return 0, false
	}
	body := r.take(uint64(size))
	if len(body) > 0 && body[0] == 0 {
		r.Fail()
		return 0, false
	}
	for _, c := range body {
		n = n<<8 | uint64(c)
	}
	return n, head[0] >= minus && !r.bad
}

// take returns the next n bytes, which are the Reader's own memory.
func (r *Reader) take(n uint64) []byte {
	if r == nil || n > uint64(len(r.rest)) {
		r.Fail()
		return nil
	}
	b := r.rest[:n]
	r.rest = r.rest[n:]
	return b
}
