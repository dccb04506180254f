package sample

import (
	"bytes"
	"slices"
	"strconv"

	"rabbet/api"
)

// Case is values of a type, and what they are put as (nothing, if they are not).
type Case = struct {
	T    int
	L    []api.Value
	Want string
}

// None is bytes that are not n values of a type.
type None = struct {
	T, N int
	B    string
}

// Codec is the two ways of an encoding.
type Codec struct {
	Put  func(t int, l []api.Value) ([]byte, bool)
	Take func(t, n int, b []byte) ([]api.Value, bool)
}

// Good tells which of the cases are not put as they ought to be, and taken again.
func (c Codec) Good(cases []Case) []string {
	var faults []string
	for i, x := range cases {
		b, ok := c.Put(x.T, x.L)
		if !ok || string(b) != x.Want {
			faults = append(faults, "good "+strconv.Itoa(i)+": it is put as "+strconv.Quote(string(b)))
		}
		if l, ok := c.Take(x.T, len(x.L), []byte(x.Want)); !ok || !slices.Equal(l, x.L) {
			faults = append(faults, "good "+strconv.Itoa(i)+": it is not taken")
		}
	}
	return faults
}

// Bad tells which of the cases are put though they ought not to be.
func (c Codec) Bad(cases []Case) []string {
	var faults []string
	for i, x := range cases {
		if b, ok := c.Put(x.T, x.L); ok || b != nil {
			faults = append(faults, "bad "+strconv.Itoa(i)+": it is put as "+strconv.Quote(string(b)))
		}
	}
	return faults
}

// NotTaken tells which bytes are taken though they ought not to be; and a thousand of them must be where a thousand and one must not.
func (c Codec) NotTaken(none []None, t int, thousand []byte) []string {
	var faults []string
	for i, x := range none {
		if l, ok := c.Take(x.T, x.N, []byte(x.B)); ok || l != nil {
			faults = append(faults, "none "+strconv.Itoa(i)+": it is taken")
		}
	}
	if l, ok := c.Take(t, 1000, bytes.Clone(thousand)); !ok || len(l) != 1000 {
		faults = append(faults, "a thousand are not taken")
	}
	return faults
}
