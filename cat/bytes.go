package cat

import (
	"bytes"

	"rabbet/api"
	"rabbet/fault"
	"rabbet/num"
	"rabbet/scan"
)

// Put is r as bytes; nothing, if r has more than its Kind names.
func Put(r Record) []byte {
	if named(r) != nil {
		return nil
	}
	p := &pen{}
	p.record(r)
	return p.out
}

// Take is the record whose Put is just b.
func Take(b []byte) (Record, api.Errno) {
	p := &pen{in: scan.New(b)}
	r := p.record(Record{})
	if p.in.Err() != nil || !bytes.Equal(Put(r), b) {
		return Record{}, api.EForm
	}
	return r, api.OK
}

// named tells why r has something that its Kind does not name.
func named(r Record) error {
	kind := r.Kind
	switch kind {
	case All:
		r.State = api.State{}
	case Fresh:
		r.Rows = nil
	case Flushed:
		r.N, r.More = 0, nil
		fallthrough
	case Moved:
		r.Items = nil
	case Begun:
		r.Change = api.Change{}
	case Cut, Undone:
	default:
		return fault.At("kind", kind, fault.ErrType)
	}
	if !blank(r.State) || len(r.Rows) > 0 || r.N != 0 || len(r.Items) > 0 || len(r.More) > 0 || r.Change != (api.Change{}) {
		return fault.At("kind", kind, fault.ErrSpare)
	}
	return nil
}

func blank(s api.State) bool {
	return s.Version == 0 && sameSchema(s.Schema, api.Schema{}) && sameLayout(s.Layout, api.Layout{}) &&
		len(s.Buffer) == 0 && len(s.Segs) == 0 && idle(s)
}

// pen goes through a record from front to back. It writes what it is shown, or, if there are bytes to read, tells what they say instead: so that both ways go the same way.
type pen struct {
	out []byte
	in  *scan.Reader
}

func (p *pen) record(r Record) Record {
	r.Kind = p.int(r.Kind)
	switch r.Kind {
	case All:
		r.State = p.state(r.State)
	case Fresh:
		r.Rows = list(p, r.Rows, p.row)
	case Flushed:
		r.N = p.int(r.N)
		r.More = list(p, r.More, p.item)
		fallthrough
	case Moved:
		r.Items = list(p, r.Items, p.item)
	case Begun:
		r.Change = p.change(r.Change)
	}
	return r
}

func (p *pen) state(s api.State) api.State {
	s.Version = p.int(s.Version)
	s.Schema, s.Layout = p.schema(s.Schema), p.layout(s.Layout)
	s.Buffer = list(p, s.Buffer, p.row)
	s.Segs = list(p, s.Segs, p.item)
	s.Busy = p.bool(s.Busy)
	s.Change = p.change(s.Change)
	s.NextS, s.NextL = p.schema(s.NextS), p.layout(s.NextL)
	s.Next = list(p, s.Next, p.item)
	s.Todo, s.Done = p.int(s.Todo), p.int(s.Done)
	return s
}

func (p *pen) schema(s api.Schema) api.Schema {
	s.Cols = list(p, s.Cols, p.column)
	s.Last = p.int(s.Last)
	return s
}

func (p *pen) column(c api.Column) api.Column {
	return api.Column{ID: p.int(c.ID), Name: p.text(c.Name), Type: p.int(c.Type)}
}

func (p *pen) layout(l api.Layout) api.Layout {
	l.SortBy, l.PartBy, l.Parts = p.int(l.SortBy), p.int(l.PartBy), p.int(l.Parts)
	l.Enc = list(p, l.Enc, p.int)
	return l
}

func (p *pen) row(r api.Row) api.Row { return list(p, r, p.value) }

func (p *pen) value(v api.Value) api.Value {
	return api.Value{Type: p.int(v.Type), I: p.number(v.I), S: p.text(v.S)}
}

func (p *pen) item(i api.Item) api.Item {
	i.E.At, i.E.N = p.int(i.E.At), p.int(i.E.N)
	i.Bytes, i.Rows, i.Part = p.int(i.Bytes), p.int(i.Rows), p.int(i.Part)
	return i
}

func (p *pen) change(c api.Change) api.Change {
	c.Kind, c.Col, c.Name, c.Type = p.int(c.Kind), p.int(c.Col), p.text(c.Name), p.int(c.Type)
	c.Value = p.value(c.Value)
	c.Sep, c.N = byte(p.int(int(c.Sep))), p.int(c.N)
	return c
}

func (p *pen) int(n int) int { return int(p.number(int64(n))) }

func (p *pen) number(n int64) int64 {
	if p.in != nil {
		return num.Zag(p.in.Num())
	}
	p.out = append(p.out, num.Put(num.Zig(n))...)
	return n
}

func (p *pen) bool(yes bool) bool {
	n := 0
	if yes {
		n = 1
	}
	return p.int(n) == 1
}

// count is how many bytes, or things of at least one byte each, come.
func (p *pen) count(n int) int {
	if p.in == nil {
		p.out = append(p.out, num.Put(uint64(n))...)
		return n
	}
	u := p.in.Num()
	if u > uint64(p.in.Left()) {
		p.in.Fail(fault.ErrShort)
		return 0
	}
	return int(u)
}

func (p *pen) text(s string) string {
	n := p.count(len(s))
	if p.in != nil {
		return string(p.in.Bytes(n))
	}
	p.out = append(p.out, s...)
	return s
}

// list goes through a list, one by one.
func list[L ~[]T, T any](p *pen, l L, each func(T) T) L {
	var told L
	for i := range p.count(len(l)) {
		var x T
		if p.in == nil {
			x = l[i]
		}
		told = append(told, each(x))
	}
	return told
}
