// Package sample makes values in few words: for the tests of all layers.
package sample

import "rabbet/api"

// Null is nothing.
func Null() api.Value { return api.Value{} }

// Small is a Small.
func Small(n int64) api.Value { return api.Value{Type: api.Small, I: n} }

// Int is an Int.
func Int(n int64) api.Value { return api.Value{Type: api.Int, I: n} }

// Bool is a Bool.
func Bool(n int64) api.Value { return api.Value{Type: api.Bool, I: n} }

// Text is a Text.
func Text(s string) api.Value { return api.Value{Type: api.Text, S: s} }

// Smalls are Smalls.
func Smalls(l ...int64) []api.Value { return each(Small, l) }

// Ints are Ints.
func Ints(l ...int64) []api.Value { return each(Int, l) }

// Bools are Bools.
func Bools(l ...int64) []api.Value { return each(Bool, l) }

// Texts are Texts.
func Texts(l ...string) []api.Value { return each(Text, l) }

// List is a list of these.
func List(l ...api.Value) []api.Value { return l }

func each[T any](of func(T) api.Value, l []T) []api.Value {
	var vs []api.Value
	for _, x := range l {
		vs = append(vs, of(x))
	}
	return vs
}
