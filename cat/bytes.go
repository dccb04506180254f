package cat

import (
	"bytes"

	"rabbet/api"
	"rabbet/fault"
	"rabbet/pen"
)

// Put is r as bytes; nothing, if r has more than its Kind names.
func Put(r Record) []byte {
	if named(r) != nil {
		return nil
	}
	p := scribe{pen.Write()}
	p.record(r)
	return p.Out()
}

// Take is the record whose Put is just b.
func Take(b []byte) (Record, api.Errno) {
	p := scribe{pen.Read(b)}
	r := p.record(Record{})
	if p.Err() != nil || !bytes.Equal(Put(r), b) {
		return Record{}, api.EForm
	}
	return r, api.OK
}

// named tells why r has something that its Kind does not name.
func named(r Record) error {
	kind := r.Kind
	switch kind {
	case All:
		r.State = api.State{}
	case Fresh:
		r.Rows = nil
	case Flushed:
		r.N, r.More = 0, nil
		fallthrough
	case Moved:
		r.Items = nil
	case Begun:
		r.Change = api.Change{}
	case Cut, Undone:
	default:
		return fault.At("kind", kind, fault.ErrType)
	}
	if !blank(r.State) || len(r.Rows) > 0 || r.N != 0 || len(r.Items) > 0 || len(r.More) > 0 || r.Change != (api.Change{}) {
		return fault.At("kind", kind, fault.ErrSpare)
	}
	return nil
}

func blank(s api.State) bool {
	return s.Version == 0 && sameSchema(s.Schema, api.Schema{}) && sameLayout(s.Layout, api.Layout{}) &&
		len(s.Buffer) == 0 && len(s.Segs) == 0 && idle(s)
}

// scribe goes through a record: it writes it, or reads it.
type scribe struct {
	*pen.Pen
}

func (p scribe) record(r Record) Record {
	r.Kind = p.Int(r.Kind)
	switch r.Kind {
	case All:
		r.State = p.state(r.State)
	case Fresh:
		r.Rows = list(p, r.Rows, p.row)
	case Flushed:
		r.N = p.Int(r.N)
		r.More = list(p, r.More, p.item)
		fallthrough
	case Moved:
		r.Items = list(p, r.Items, p.item)
	case Begun:
		r.Change = p.change(r.Change)
	}
	return r
}

func (p scribe) state(s api.State) api.State {
	s.Version = p.Int(s.Version)
	s.Schema, s.Layout = p.schema(s.Schema), p.layout(s.Layout)
	s.Buffer = list(p, s.Buffer, p.row)
	s.Segs = list(p, s.Segs, p.item)
	s.Busy = p.Bool(s.Busy)
	s.Change = p.change(s.Change)
	s.NextS, s.NextL = p.schema(s.NextS), p.layout(s.NextL)
	s.Next = list(p, s.Next, p.item)
	s.Todo, s.Done = p.Int(s.Todo), p.Int(s.Done)
	return s
}

func (p scribe) schema(s api.Schema) api.Schema {
	s.Cols = list(p, s.Cols, p.column)
	s.Last = p.Int(s.Last)
	return s
}

func (p scribe) column(c api.Column) api.Column {
	return api.Column{ID: p.Int(c.ID), Name: p.text(c.Name), Type: p.Int(c.Type)}
}

func (p scribe) layout(l api.Layout) api.Layout {
	l.SortBy, l.PartBy, l.Parts = p.Int(l.SortBy), p.Int(l.PartBy), p.Int(l.Parts)
	l.Enc = list(p, l.Enc, p.Int)
	return l
}

func (p scribe) row(r api.Row) api.Row { return list(p, r, p.value) }

func (p scribe) value(v api.Value) api.Value {
	return api.Value{Type: p.Int(v.Type), I: p.Long(v.I), S: p.text(v.S)}
}

func (p scribe) item(i api.Item) api.Item {
	i.E.At, i.E.N = p.Int(i.E.At), p.Int(i.E.N)
	i.Bytes, i.Rows, i.Part = p.Int(i.Bytes), p.Int(i.Rows), p.Int(i.Part)
	return i
}

func (p scribe) change(c api.Change) api.Change {
	c.Kind, c.Col, c.Name, c.Type = p.Int(c.Kind), p.Int(c.Col), p.text(c.Name), p.Int(c.Type)
	c.Value = p.value(c.Value)
	c.Sep, c.N = byte(p.Int(int(c.Sep))), p.Int(c.N)
	return c
}

func (p scribe) text(s string) string { return p.Text(s, p.Count(len(s))) }

func list[L ~[]T, T any](p scribe, l L, each func(T) T) L {
	return pen.List(p.Pen, l, p.Count(len(l)), each)
}
