package play

import (
	"rabbet/api"
	"rabbet/pen"
)

// How many there may be: what a byte tells is taken modulo these.
const (
	rows   = 10
	values = 8
	cols   = 8
	tests  = 10
	aggs   = 6
	keys   = 5
	flags  = 4
)

// player goes through steps: it writes them, or reads them.
type player struct {
	*pen.Pen
}

func (p player) step(s api.Step) api.Step {
	s.Kind = p.Below(s.Kind, kinds)
	switch s.Kind {
	case api.StepAsk:
		s.Ask = p.request(s.Ask)
	case api.StepCrash:
		s.Keep = []byte(p.text(string(s.Keep)))
		s.Torn = p.High(s.Torn+1, 1) - 1
		s.At = p.High(s.At, 1)
	case api.StepStop:
		s.N = p.High(s.N, 2)
	}
	return s
}

func (p player) request(r api.Request) api.Request {
	r.Kind = p.High(r.Kind, 1)
	switch r.Kind {
	case api.AskInsert:
		r.Rows = list(p, r.Rows, rows, p.row)
	case api.AskQuery:
		r.Query = p.query(r.Query)
	case api.AskStart:
		r.Change = p.change(r.Change)
	}
	return r
}

func (p player) row(r api.Row) api.Row { return list(p, r, values, p.Value) }

func (p player) query(q api.Query) api.Query {
	q.Cols = list(p, q.Cols, cols, p.text)
	q.Where = list(p, q.Where, tests, p.test)
	q.Aggs = list(p, q.Aggs, aggs, p.agg)
	q.Order = list(p, q.Order, keys, p.key)
	q.Limit = p.High(q.Limit, 2)
	return q
}

func (p player) test(t api.Test) api.Test {
	t.Name, t.Op, t.Value = p.text(t.Name), p.High(t.Op, 1), p.Value(t.Value)
	both := p.Below(bit(t.Or, 1)+bit(t.Not, 2), flags)
	t.Or, t.Not = both&1 != 0, both&2 != 0
	return t
}

// bit is of that worth, if it is set.
func bit(set bool, worth int) int {
	if set {
		return worth
	}
	return 0
}

func (p player) agg(a api.Agg) api.Agg {
	return api.Agg{Op: p.High(a.Op, 1), Name: p.text(a.Name)}
}

func (p player) key(k api.Key) api.Key {
	return api.Key{Name: p.text(k.Name), Down: p.High(bit(k.Down, 1), 1)%2 == 1}
}

func (p player) change(c api.Change) api.Change {
	c.Kind, c.Col = p.High(c.Kind, 1), p.High(c.Col, 2)
	c.Name, c.Type = p.text(c.Name), p.High(c.Type, 1)
	c.Value = p.Value(c.Value)
	c.Sep, c.N = byte(p.High(int(c.Sep), 1)), p.High(c.N, 2)
	return c
}

func (p player) text(s string) string { return p.Text(s, p.High(len(s), 1)) }

// list is a list of fewer than most things.
func list[L ~[]T, T any](p player, l L, most int, each func(T) T) L {
	return pen.List(p.Pen, l, p.Below(len(l), most), each)
}
