package codec

import (
	"bytes"

	"linnet/api"
)

// Reader reads from the front, up to the first error.
type Reader struct {
	left []byte // the Reader's own, never written; none behind an error
	err  api.Errno
}

// NewReader is one of a copy of the bytes.
func NewReader(b []byte) *Reader {
	return &Reader{left: bytes.Clone(b)}
}

// Num reads a number.
func (r *Reader) Num() int {
	n := asNumber(r.take(numSize))
	if n > maxNum {
		r.fail(api.ErrBad)
		return 0
	}
	return int(n)
}

// Word reads a great one.
func (r *Reader) Word() uint64 {
	return asNumber(r.take(wordSize))
}

// Bytes reads bytes, at most so many.
func (r *Reader) Bytes(most int) []byte {
	return bytes.Clone(r.counted(most))
}

// Text reads a text of at most so many bytes.
func (r *Reader) Text(most int) string {
	return string(r.counted(most))
}

// Left is how many bytes are left.
func (r *Reader) Left() int {
	if r == nil {
		return 0
	}
	return len(r.left)
}

// Err is the first error.
func (r *Reader) Err() api.Errno {
	if r == nil {
		return api.ErrBad
	}
	return r.err
}

// counted reads how many there are, and them, still in the Reader's own memory. Whether they are there is asked ahead of whether they are too many.
func (r *Reader) counted(most int) []byte {
	b := r.take(r.Num())
	if len(b) > most {
		r.fail(api.ErrBig)
		return nil
	}
	return b
}

// take reads that many bytes, or none.
func (r *Reader) take(n int) []byte {
	if n > r.Left() {
		r.fail(api.ErrBad)
	}
	if r.Err() != api.OK {
		return nil
	}
	b := r.left[:n]
	r.left = r.left[n:]
	return b
}

// fail ends all reading; an error that was there before stays.
func (r *Reader) fail(why api.Errno) {
	if r.Err() == api.OK {
		*r = Reader{err: why}
	}
}
