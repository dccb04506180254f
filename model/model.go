// Package model has the plain table that a store is held against, and what is true of each store: for the tests.
package model

import (
	"slices"

	"rabbet/api"
	"rabbet/batch"
	"rabbet/cat"
	"rabbet/change"
	"rabbet/column"
	"rabbet/exec"
	"rabbet/fresh"
	"rabbet/part"
	"rabbet/schema"
	"rabbet/store"
)

// Table is rows, in the order in which they came, and the change that is on the way.
type Table struct {
	S       api.Schema
	L       api.Layout
	Rows    []api.Row
	Version int
	Busy    bool
	Change  api.Change
}

// Copy is another table that has the same.
func (t Table) Copy() Table {
	t.S, t.L, t.Rows = fresh.Schema(t.S), fresh.Layout(t.L), fresh.Rows(t.Rows)
	return t
}

// Ask is what the plain table answers; of a step, whether it is the last one is for the store to say.
func (t *Table) Ask(r api.Request, done bool) api.Reply {
	switch r.Kind {
	case api.AskInsert:
		return api.Reply{Err: t.insert(r.Rows)}
	case api.AskQuery:
		rows, e := exec.Run(t.S, t.batches(), r.Query)
		return api.Reply{Rows: rows, Err: e}
	case api.AskStart:
		return api.Reply{Err: t.start(r.Change)}
	case api.AskUndo:
		return api.Reply{Err: t.end(false)}
	case api.AskStep:
		if !t.Busy || !done {
			return api.Reply{Err: t.idle()}
		}
		return api.Reply{Err: t.end(true), Done: true}
	case api.AskTidy:
		return api.Reply{}
	}
	return api.Reply{Err: api.EArg}
}

func (t *Table) batches() [][][]api.Value {
	cols, _ := batch.Columns(t.Rows, len(t.S.Cols))
	return [][][]api.Value{cols}
}

func (t *Table) insert(rows []api.Row) api.Errno {
	if len(rows) < 1 || len(rows) > api.MaxRows {
		return api.EArg
	}
	for _, r := range rows {
		if !schema.Fits(t.S, r) {
			return api.EType
		}
	}
	t.Rows = append(t.Rows, fresh.Rows(rows)...)
	return api.OK
}

func (t *Table) idle() api.Errno {
	if !t.Busy {
		return api.EIdle
	}
	return api.OK
}

func (t *Table) start(c api.Change) api.Errno {
	if t.Busy {
		return api.EBusy
	}
	_, _, e := schema.Apply(t.S, t.L, c)
	if e == api.OK && t.Version == api.MaxChange {
		e = api.EFull
	}
	if e == api.OK {
		t.Busy, t.Change = true, c
	}
	return e
}

func (t *Table) end(cut bool) api.Errno {
	if !t.Busy {
		return api.EIdle
	}
	if cut {
		t.Rows, _ = change.Rows(t.S, t.Change, t.Rows)
		t.S, t.L, _ = schema.Apply(t.S, t.L, t.Change)
		t.Version++
	}
	t.Busy, t.Change = false, api.Change{}
	return api.OK
}

// Agrees tells whether a reply is one that the plain table may give: rows as a bag, in order where one is asked for; and it is done to the table, too. Nothing was done where there was no room.
func (t *Table) Agrees(r api.Request, got api.Reply) bool {
	if got.Err == api.EFull {
		return got.Rows == nil && !got.Done
	}
	want := t.Ask(r, got.Done)
	if got.Err != want.Err || got.Done != want.Done {
		return false
	}
	if len(r.Query.Order) == 0 || r.Query.Limit == 0 && len(r.Query.Aggs) == 0 {
		return batch.SameBag(got.Rows, want.Rows) && t.ordered(r.Query, got.Rows)
	}
	return batch.SameRows(got.Rows, want.Rows)
}

// ordered tells whether rows are in the order that q asks for, as far as they show it.
func (t *Table) ordered(q api.Query, rows []api.Row) bool {
	names := q.Cols
	if len(names) == 0 {
		for _, c := range t.S.Cols {
			names = append(names, c.Name)
		}
	}
	var first api.Query
	for _, k := range q.Order {
		if !slices.Contains(names, k.Name) {
			break
		}
		first.Order = append(first.Order, api.Key{Name: k.Name, Down: k.Down})
	}
	if len(first.Order) == 0 || len(q.Aggs) > 0 {
		return true
	}
	again := slices.Clone(rows)
	var s api.Schema
	for i, name := range names {
		at, _ := schema.Find(t.S, name)
		s.Cols = append(s.Cols, api.Column{ID: i + 1, Name: name, Type: t.S.Cols[at].Type})
	}
	cols, ok := batch.Columns(again, len(names))
	if !ok {
		return false
	}
	sorted, e := exec.Run(s, [][][]api.Value{cols}, first)
	return e == api.OK && batch.SameRows(sorted, rows)
}

// Sound tells what is not true of a store that ought to be; "": all is.
func Sound(s *store.Store) string {
	st := s.State()
	if !cat.May(st) {
		return "the state may not be"
	}
	taken := 0
	for _, e := range cat.Extents(st) {
		taken += e.N
	}
	if taken != s.Used() {
		return "other blocks are taken than the state names"
	}
	for _, i := range st.Segs {
		if fault := soundSegment(s, i, st.Version, st.Schema, st.Layout); fault != "" {
			return fault
		}
	}
	for _, i := range st.Next {
		if fault := soundSegment(s, i, st.Version+1, st.NextS, st.NextL); fault != "" {
			return "to come: " + fault
		}
	}
	return ""
}

func soundSegment(s *store.Store, i api.Item, version int, sc api.Schema, l api.Layout) string {
	g, ok := s.Load(i)
	if !ok {
		return "a segment is not there"
	}
	if g.Version != version || g.Part != i.Part || i.E.N != (i.Bytes+api.Size-1)/api.Size || len(g.Cols) != len(sc.Cols) {
		return "a segment is not what its item says"
	}
	for c, col := range sc.Cols {
		if used, _ := column.Used(l.Enc[c], col.Type); g.Types[c] != col.Type || g.Enc[c] != used {
			return "a column is of another type, or encoding"
		}
	}
	rows := batch.Rows(g.Cols)
	if len(rows) != i.Rows {
		return "a segment has not so many rows"
	}
	at, sorted := schema.ByID(sc, l.SortBy)
	if sorted && g.SortBy != at+1 || !sorted && g.SortBy != 0 {
		return "a segment is in another order"
	}
	by, parted := schema.ByID(sc, l.PartBy)
	for _, r := range rows {
		if !schema.Fits(sc, r) || parted && part.Of(r[by], l.Parts) != g.Part {
			return "a row is in another part, or does not fit"
		}
	}
	return ""
}
