// Package scan reads bytes from the front: numbers, texts, values, one behind the other. Behind the first error all that is read is its zero value.
package scan

import (
	"rabbet/api"
	"rabbet/fault"
	"rabbet/high"
	"rabbet/num"
	"rabbet/value"
	"rabbet/zone"
)

// Reader is bytes that are read, how many of them were, and what went wrong.
type Reader struct {
	b   []byte
	at  int
	err error
}

// New reads b.
func New(b []byte) *Reader { return &Reader{b: b} }

// Err is the first error.
func (r *Reader) Err() error { return r.err }

// At is how many bytes were read.
func (r *Reader) At() int { return r.at }

// Left is how many bytes were not.
func (r *Reader) Left() int { return len(r.b) - r.at }

// Fail is an error at the byte that comes next, if it is the first one.
func (r *Reader) Fail(err error) {
	if r.err == nil {
		r.err = fault.At("byte", r.at, err)
	}
}

// Bytes is the next n bytes.
func (r *Reader) Bytes(n int) []byte {
	if n < 0 || n > r.Left() {
		r.Fail(fault.ErrShort)
	}
	if r.err != nil {
		return nil
	}
	r.at += n
	return append([]byte(nil), r.b[r.at-n:r.at]...)
}

// High is a number of n bytes, the highest first.
func (r *Reader) High(n int) int { return int(high.Take(r.Bytes(n))) }

// Num is a number as num has it.
func (r *Reader) Num() uint64 {
	u, n, ok := num.Take(r.rest())
	return next(r, u, n, ok)
}

// Value is a value as value.Put has it.
func (r *Reader) Value() api.Value {
	v, n, ok := value.Take(r.rest())
	return next(r, v, n, ok)
}

// Zone is a zone as zone.Put has it.
func (r *Reader) Zone() api.Zone {
	z, n, ok := zone.Take(r.rest())
	return next(r, z, n, ok)
}

func (r *Reader) rest() []byte { return r.b[r.at:] }

// next is what was taken of n bytes, unless there is an error.
func next[T any](r *Reader, x T, n int, ok bool) T {
	if !ok {
		r.Fail(fault.ErrValue)
	}
	if r.err != nil {
		var zero T
		return zero
	}
	r.at += n
	return x
}
