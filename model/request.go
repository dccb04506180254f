package model

import (
	"strconv"

	"rabbet/api"
)

// Request is some request of the table; pick picks one of so many numbers from 0 on.
func (t *Table) Request(pick func(n int) int) api.Request {
	switch pick(10) {
	case 0, 1, 2:
		return api.Request{Kind: api.AskInsert, Rows: t.rows(pick)}
	case 3, 4:
		return api.Request{Kind: api.AskQuery, Query: t.query(pick)}
	case 5:
		return api.Request{Kind: api.AskStart, Change: t.change(pick)}
	case 6, 7, 8:
		if !t.Busy && pick(4) > 0 {
			return api.Request{Kind: api.AskStart, Change: t.change(pick)}
		}
		return api.Request{Kind: api.AskStep}
	}
	return api.Request{Kind: []int{api.AskUndo, api.AskTidy, api.AskQuery, api.AskQuery, 7}[pick(5)]}
}

func (t *Table) rows(pick func(n int) int) []api.Row {
	var rows []api.Row
	for range pick(api.MaxRows + 2) {
		var r api.Row
		for _, c := range t.S.Cols {
			r = append(r, some(c.Type, pick))
		}
		rows = append(rows, r)
	}
	return rows
}

// some is nothing, or a value of type ty; now and then it is of another one.
func some(ty int, pick func(n int) int) api.Value {
	switch pick(40) {
	case 0, 1, 2, 3:
		return api.Value{}
	case 4:
		ty = 1 + pick(4)
	}
	v := api.Value{Type: ty}
	switch ty {
	case api.Text:
		v.S = strconv.Itoa(pick(5)) + []string{"", ":", "-", ":a:b"}[pick(4)]
	case api.Bool:
		v.I = int64(pick(2))
	case api.Small:
		v.I = int64(pick(20) - 10)
	default:
		v.I = []int64{int64(pick(50)), -1 << 63, 1<<63 - 1, int64(-pick(1000))}[pick(4)]
	}
	return v
}

func (t *Table) name(pick func(n int) int) string {
	if pick(30) == 0 {
		return "none"
	}
	return t.S.Cols[pick(len(t.S.Cols))].Name
}

func (t *Table) query(pick func(n int) int) api.Query {
	var q api.Query
	for range pick(4) * pick(2) {
		q.Cols = append(q.Cols, t.name(pick))
	}
	for range pick(4) {
		test := api.Test{Name: t.name(pick), Op: 1 + pick(8), Or: pick(3) == 0, Not: pick(3) == 0}
		test.Value = some(1+pick(4), pick)
		q.Where = append(q.Where, test)
	}
	for range pick(3) * pick(2) {
		q.Aggs = append(q.Aggs, api.Agg{Op: 1 + pick(4), Name: t.name(pick)})
	}
	if pick(2) == 0 {
		return q
	}
	if len(q.Aggs) > 0 {
		for _, name := range q.Cols {
			q.Order = append(q.Order, api.Key{Name: name, Down: pick(2) == 0})
		}
		q.Limit = pick(5)
		return q
	}
	q.Order = append(q.Order, api.Key{Name: t.name(pick), Down: pick(2) == 0})
	return q
}

func (t *Table) change(pick func(n int) int) api.Change {
	at := pick(len(t.S.Cols))
	c := api.Change{Kind: 1 + pick(9), Col: t.S.Cols[at].ID, Type: 1 + pick(4), Sep: ':', N: 1 + pick(5)}
	c.Name = "c" + strconv.Itoa(pick(8))
	c.Value = some(c.Type, pick)
	if pick(20) == 0 {
		c.Col = pick(3)
	}
	return c
}
