// Package value: values, and their order: see doc/01-value.md.
package value

import (
	"cmp"
	"errors"
	"math"
	"strings"

	"rabbet/api"
	"rabbet/fault"
	"rabbet/high"
)

// May tells whether v is a value.
func May(v api.Value) bool { return check(v) == nil }

// Fits tells whether v may stand in a column of type t.
func Fits(t int, v api.Value) bool {
	if t < api.Small || t > api.Text {
		return false
	}
	return (v.Type == 0 || v.Type == t) && May(v)
}

// check tells why v is no value. What holds of a narrow number holds of a wider one: each case adds its own.
func check(v api.Value) error {
	switch v.Type {
	case 0:
		if v.I != 0 {
			return fault.At("nothing", 0, fault.ErrValue)
		}
		fallthrough
	case api.Bool:
		if v.I < 0 || v.I > 1 {
			return fault.At("bool", 0, fault.ErrBound)
		}
		fallthrough
	case api.Small:
		if v.I < math.MinInt16 || v.I > math.MaxInt16 {
			return fault.At("small", 0, fault.ErrBound)
		}
		fallthrough
	case api.Int:
		if v.S != "" {
			return fault.At("number with a text", v.Type, fault.ErrValue)
		}
	case api.Text:
		if v.I != 0 || len(v.S) > api.MaxText {
			return fault.At("text", len(v.S), fault.ErrBound)
		}
	default:
		return fault.At("type", v.Type, fault.ErrType)
	}
	return nil
}

// Compare is -1, 0, 1 where a is ahead of b, alike, behind it.
func Compare(a, b api.Value) int {
	r := rank(a)
	if c := cmp.Compare(r, rank(b)); c != 0 || r == 0 {
		return c
	}
	if r == rank(api.Value{Type: api.Text}) {
		return strings.Compare(a.S, b.S)
	}
	return cmp.Compare(a.I, b.I)
}

// rank: nothing is ahead of numbers, these are ahead of Texts.
func rank(v api.Value) int {
	switch v.Type {
	case 0:
		return 0
	case api.Text:
		return 2
	}
	return 1
}

// width is how many bytes a number of type t has; 0: it is none.
func width(t int) int {
	switch t {
	case api.Small:
		return 2
	case api.Int:
		return 8
	case api.Bool:
		return 1
	}
	return 0
}

// Put is v as bytes; nothing: it may not be.
func Put(v api.Value) []byte {
	if !May(v) {
		return nil
	}
	b := []byte{byte(v.Type)}
	if v.Type == api.Text {
		return append(append(b, byte(len(v.S))), v.S...)
	}
	return append(b, high.Put(uint64(v.I), width(v.Type))...)
}

// Take is the value whose Put b begins with, and how many bytes that is.
func Take(b []byte) (v api.Value, n int, ok bool) {
	v, n, err := read(b)
	if errors.Is(err, fault.ErrShort) || check(v) != nil {
		return api.Value{}, 0, false
	}
	return v, n, true
}

// read is what stands at the beginning of b, be it a value or not.
func read(b []byte) (api.Value, int, error) {
	if len(b) == 0 {
		return api.Value{}, 0, fault.At("type", 0, fault.ErrShort)
	}
	v := api.Value{Type: int(b[0])}
	if v.Type == api.Text {
		return readText(b)
	}
	n := 1 + width(v.Type)
	if len(b) < n {
		return v, 0, fault.At("number", n, fault.ErrShort)
	}
	spare := 64 - 8*width(v.Type)
	v.I = int64(high.Take(b[1:n])<<spare) >> spare
	return v, n, nil
}

func readText(b []byte) (api.Value, int, error) {
	v := api.Value{Type: api.Text}
	if len(b) < 2 || len(b)-2 < int(b[1]) {
		return v, 0, fault.At("text", len(b), fault.ErrShort)
	}
	n := 2 + int(b[1])
	v.S = string(b[2:n])
	return v, n, nil
}
