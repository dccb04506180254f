// Package pen goes through a thing from front to back, in one of two ways: it writes what it is shown, or it tells what bytes say instead. So what goes through a thing once both writes and reads it.
package pen

import (
	"rabbet/api"
	"rabbet/fault"
	"rabbet/high"
	"rabbet/num"
	"rabbet/scan"
	"rabbet/value"
)

// Pen is bytes that are written, or read, and what went wrong.
type Pen struct {
	out []byte
	in  *scan.Reader // nil: it writes
	err error
}

// Write is a pen that writes.
func Write() *Pen { return &Pen{} }

// Read is a pen that reads b.
func Read(b []byte) *Pen { return &Pen{in: scan.New(b)} }

// Out is what was written.
func (p *Pen) Out() []byte { return p.out }

// Left is how many bytes are not read yet.
func (p *Pen) Left() int {
	if p.in == nil {
		return 0
	}
	return p.in.Left()
}

// Err is the first thing that went wrong.
func (p *Pen) Err() error {
	if p.in != nil {
		return p.in.Err()
	}
	return p.err
}

func (p *Pen) fail(err error) {
	if p.in != nil {
		p.in.Fail(err)
	} else if p.err == nil {
		p.err = fault.At("byte", len(p.out), err)
	}
}

func (p *Pen) put(b []byte) { p.out = append(p.out, b...) }

// Long is a number in few bytes, if it is near 0.
func (p *Pen) Long(n int64) int64 {
	if p.in != nil {
		return num.Zag(p.in.Num())
	}
	p.put(num.Put(num.Zig(n)))
	return n
}

// Int is a number in few bytes, if it is near 0.
func (p *Pen) Int(n int) int { return int(p.Long(int64(n))) }

// Bool is yes or no, as a number.
func (p *Pen) Bool(yes bool) bool {
	n := 0
	if yes {
		n = 1
	}
	return p.Int(n) == 1
}

// High is a number of so many bytes, the highest first.
func (p *Pen) High(n, size int) int {
	if p.in != nil {
		return p.in.High(size)
	}
	if n < 0 || n >= 1<<(8*size) {
		p.fail(fault.ErrBound)
	}
	p.put(high.Put(uint64(n), size))
	return n
}

// Below is a number below most in one byte: what is above is taken modulo most.
func (p *Pen) Below(n, most int) int {
	if p.in == nil && n >= most {
		p.fail(fault.ErrBound)
	}
	return p.High(n, 1) % most
}

// Count is how many things, of at least one byte each, come.
func (p *Pen) Count(n int) int {
	if p.in == nil {
		p.put(num.Put(uint64(n)))
		return n
	}
	u := p.in.Num()
	if u > uint64(p.in.Left()) {
		p.fail(fault.ErrShort)
		return 0
	}
	return int(u)
}

// Text is a text of n bytes.
func (p *Pen) Text(s string, n int) string {
	if p.in != nil {
		return string(p.in.Bytes(n))
	}
	p.put([]byte(s))
	return s
}

// Value is a value as value.Put has it.
func (p *Pen) Value(v api.Value) api.Value {
	if p.in != nil {
		return p.in.Value()
	}
	if !value.May(v) {
		p.fail(fault.ErrValue)
	}
	p.put(value.Put(v))
	return v
}

// List is a list of n things, each as each goes through it. Behind an error there is nothing more.
func List[L ~[]T, T any](p *Pen, l L, n int, each func(T) T) L {
	var told L
	for i := 0; i < n && p.Err() == nil; i++ {
		var x T
		if p.in == nil {
			x = l[i]
		}
		told = append(told, each(x))
	}
	return told
}
