// Package cell has one value of a column as bytes, as the layer plain has each: what several of the encodings are made of.
package cell

import (
	"bytes"

	"rabbet/api"
	"rabbet/fault"
	"rabbet/num"
	"rabbet/value"
)

// Most is how many values are taken at once, at most.
const Most = 1000

// Type tells why t is no type of a column.
func Type(t int) error {
	if t < api.Small || t > api.Text {
		return fault.At("type", t, fault.ErrType)
	}
	return nil
}

// All tells why l is no list of values of type t (nothing is of none).
func All(t int, l []api.Value) error {
	if err := Type(t); err != nil {
		return err
	}
	for i, v := range l {
		if v.Type != t || !value.May(v) {
			return fault.At("value", i, fault.ErrValue)
		}
	}
	return nil
}

// Count tells why n values of type t are not taken.
func Count(t, n int) error {
	if n < 0 || n > Most {
		return fault.At("count", n, fault.ErrBound)
	}
	return Type(t)
}

// Put is a value that may be, and is not nothing.
func Put(v api.Value) []byte {
	switch v.Type {
	case api.Text:
		return append([]byte{byte(len(v.S))}, v.S...)
	case api.Bool:
		return []byte{byte(v.I)}
	}
	return num.Put(num.Zig(v.I))
}

// Take is the value of type t that b begins with, and how many bytes that is.
func Take(t int, b []byte) (api.Value, int, error) {
	v, n, err := read(t, b)
	if err != nil {
		return api.Value{}, 0, err
	}
	if !value.May(v) {
		return api.Value{}, 0, fault.At("value", 0, fault.ErrValue)
	}
	return v, n, nil
}

func read(t int, b []byte) (api.Value, int, error) {
	v := api.Value{Type: t}
	switch t {
	case api.Small, api.Int:
		u, n, ok := num.Take(b)
		if !ok {
			return v, 0, fault.At("number", 0, fault.ErrShort)
		}
		v.I = num.Zag(u)
		return v, n, nil
	case api.Bool, api.Text:
		return readBytes(v, b)
	}
	return v, 0, Type(t)
}

// readBytes reads a Bool, or a Text: its length is ahead of it.
func readBytes(v api.Value, b []byte) (api.Value, int, error) {
	if len(b) == 0 {
		return v, 0, fault.At("byte", 0, fault.ErrShort)
	}
	if v.Type == api.Bool {
		v.I = int64(b[0])
		return v, 1, nil
	}
	n := 1 + int(b[0])
	if len(b) < n {
		return v, 0, fault.At("text", n, fault.ErrShort)
	}
	v.S = string(b[1:n])
	return v, n, nil
}

// Same is l, if what it is put as again is just b.
func Same(l []api.Value, b, again []byte, err error) ([]api.Value, error) {
	if err == nil && !bytes.Equal(again, b) {
		err = fault.At("values", len(l), fault.ErrSpare)
	}
	if err != nil {
		return nil, err
	}
	return l, nil
}
