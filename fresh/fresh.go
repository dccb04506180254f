// Package fresh makes copies that share no memory with what they are made of.
package fresh

import (
	"slices"

	"rabbet/api"
)

// Rows is a copy of rows.
func Rows(rows []api.Row) []api.Row {
	var l []api.Row
	for _, r := range rows {
		l = append(l, slices.Clone(r))
	}
	return l
}

// Schema is a copy of s.
func Schema(s api.Schema) api.Schema {
	s.Cols = slices.Clone(s.Cols)
	return s
}

// Layout is a copy of l.
func Layout(l api.Layout) api.Layout {
	l.Enc = slices.Clone(l.Enc)
	return l
}

// State is a copy of s.
func State(s api.State) api.State {
	s.Schema, s.Layout = Schema(s.Schema), Layout(s.Layout)
	s.NextS, s.NextL = Schema(s.NextS), Layout(s.NextL)
	s.Buffer = Rows(s.Buffer)
	s.Segs, s.Next = slices.Clone(s.Segs), slices.Clone(s.Next)
	return s
}
