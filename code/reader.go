package code

import (
	"strings"
)

// Reader goes through bytes.
type Reader struct {
	rest string // what was not read yet; nothing, when something was not there or may not be
	bad  bool
}

// New is a reader of bytes.
func New(s string) *Reader {
	// A copy, so that what was handed in is not kept.
	return &Reader{rest: strings.Clone(s)}
}

// Ok tells whether all that was read was there, and may be.
func (r *Reader) Ok() bool {
	return r != nil && !r.bad
}

// Left is how many bytes are left.
func (r *Reader) Left() int {
	if r == nil {
		return 0
	}
	return len(r.rest)
}

// fail lets there be nothing from now on.
func (r *Reader) fail() {
	*r = Reader{bad: true}
}

// Num is a number up to a limit, in its only form; behind something that may not be it is 0.
func (r *Reader) Num(most uint64) uint64 {
	if !r.Ok() {
		return 0
	}
	n, size := number(r.rest)
	if size == 0 || n > most {
		r.fail()
		return 0
	}
	r.rest = r.rest[size:]
	return n
}

// number is the number that bytes begin with, and how many of them it has; 0 of them: they begin with none.
func number(s string) (uint64, int) {
	var n uint64
	for i := range min(len(s), longest) {
		digit := uint64(s[i]) % more
		shift := digitBits * i
		if digit<<shift>>shift != digit {
			return 0, 0
		}
		n |= digit << shift
		if s[i] >= more {
			continue
		}
		// A nought behind others is another form of the number without it.
		if s[i] == 0 && i > 0 {
			return 0, 0
		}
		return n, i + 1
	}
	return 0, 0
}

// Int is a number with a sign.
func (r *Reader) Int() int64 {
	return Unsign(r.Num(1<<64 - 1))
}

// Text is so many bytes.
func (r *Reader) Text(n int) string {
	if !r.Ok() {
		return ""
	}
	if n < 0 || n > len(r.rest) {
		r.fail()
		return ""
	}
	// A copy, so that a short text does not keep all the bytes.
	text := strings.Clone(r.rest[:n])
	r.rest = r.rest[n:]
	return text
}
