package change_test

import (
	"slices"
	"testing"

	"rabbet/api"
	"rabbet/change"
	"rabbet/sample"
	"rabbet/schema"
)

func base() (api.Schema, api.Layout) {
	s := api.Schema{Cols: []api.Column{{ID: 3, Name: "a", Type: api.Small}, {ID: 1, Name: "b", Type: api.Text}, {ID: 4, Name: "c", Type: api.Bool}}, Last: 7}
	return s, api.Layout{Parts: 1, Enc: []int{api.Plain, api.Plain, api.Plain}}
}

func TestRow(t *testing.T) {
	row := func(s string) api.Row { return sample.List(sample.Small(-7), sample.Text(s), sample.Bool(1)) }
	null := sample.Null()
	split := api.Change{Kind: api.Split, Col: 1, Name: "d", Sep: ':'}
	for i, x := range []struct {
		c       api.Change
		r, want api.Row
	}{
		{api.Change{Kind: api.Add, Name: "d", Type: api.Int, Value: sample.Int(9)}, row("x"), append(row("x"), sample.Int(9))},
		{api.Change{Kind: api.Add, Name: "d", Type: api.Int}, row("x"), append(row("x"), null)},
		{api.Change{Kind: api.Drop, Col: 3}, row("x"), row("x")[1:]},
		{api.Change{Kind: api.Drop, Col: 4}, row("x"), row("x")[:2]},
		{api.Change{Kind: api.Widen, Col: 3}, row("x"), sample.List(sample.Int(-7), sample.Text("x"), sample.Bool(1))},
		{api.Change{Kind: api.Widen, Col: 4}, row("x"), sample.List(sample.Small(-7), sample.Text("x"), sample.Small(1))},
		{api.Change{Kind: api.Widen, Col: 3}, make(api.Row, 3), make(api.Row, 3)},
		{split, row("a:b"), sample.List(sample.Small(-7), sample.Text("a"), sample.Text("b"), sample.Bool(1))},
		{split, row("a:b:c"), sample.List(sample.Small(-7), sample.Text("a"), sample.Text("b:c"), sample.Bool(1))},
		{split, row(":"), sample.List(sample.Small(-7), sample.Text(""), sample.Text(""), sample.Bool(1))},
		{split, row("ab"), sample.List(sample.Small(-7), sample.Text("ab"), null, sample.Bool(1))},
		{split, row(""), sample.List(sample.Small(-7), sample.Text(""), null, sample.Bool(1))},
		{split, make(api.Row, 3), make(api.Row, 4)},
		{api.Change{Kind: api.Split, Col: 1, Name: "d"}, row("a\x00b"), sample.List(sample.Small(-7), sample.Text("a"), sample.Text("b"), sample.Bool(1))},
		{api.Change{Kind: api.Split, Col: 1, Name: "d", Sep: 0xff}, row("a\xffb"), sample.List(sample.Small(-7), sample.Text("a"), sample.Text("b"), sample.Bool(1))},
		{api.Change{Kind: api.Rename, Col: 3, Name: "z"}, row("x"), row("x")},
		{api.Change{Kind: api.Resort}, row("x"), row("x")},
		{api.Change{Kind: api.Repart, Col: 3, N: 2}, row("x"), row("x")},
		{api.Change{Kind: api.Redict}, row("x"), row("x")},
		{api.Change{Kind: api.Recode, Col: 3, N: 2}, row("x"), row("x")},
	} {
		s, l := base()
		was := slices.Clone(x.r)
		got, ok := change.Row(s, x.c, x.r)
		if !ok || !slices.Equal(got, x.want) || !slices.Equal(x.r, was) {
			t.Errorf("%d: %v, not %v", i, got, x.want)
		}
		if s2, _, e := schema.Apply(s, l, x.c); e != api.OK || !schema.Fits(s2, got) {
			t.Errorf("%d: %v does not fit the new schema (%v)", i, got, e)
		}
		if got[0].I++; !slices.Equal(x.r, was) {
			t.Errorf("%d: memory is shared", i)
		}
	}
}

func TestRowOfNone(t *testing.T) {
	s, _ := base()
	good := make(api.Row, 3)
	for i, x := range []struct {
		c api.Change
		r api.Row
	}{
		{api.Change{Kind: api.Drop, Col: 2}, good}, {api.Change{Kind: api.Widen, Col: 0}, good}, {api.Change{Kind: api.Split, Col: 9, Name: "d"}, good},
		{api.Change{Kind: api.Redict}, good[:2]}, {api.Change{Kind: api.Add, Name: "d", Type: api.Int}, nil}, {api.Change{Kind: api.Redict}, sample.List(sample.Int(1), sample.Null(), sample.Null())},
	} {
		if r, ok := change.Row(s, x.c, x.r); ok || r != nil {
			t.Errorf("%d: %v", i, r)
		}
		if rows, ok := change.Rows(s, x.c, []api.Row{x.r}); ok || rows != nil {
			t.Errorf("%d: rows: %v", i, rows)
		}
	}
}

func TestRows(t *testing.T) {
	s, _ := base()
	drop := api.Change{Kind: api.Drop, Col: 1}
	rows := []api.Row{sample.List(sample.Small(1), sample.Text("x"), sample.Bool(0)), make(api.Row, 3)}
	got, ok := change.Rows(s, drop, rows)
	if !ok || len(got) != 2 || !slices.Equal(got[0], sample.List(sample.Small(1), sample.Bool(0))) || !slices.Equal(got[1], make(api.Row, 2)) {
		t.Errorf("%v %v", got, ok)
	}
	if got, ok := change.Rows(s, drop, append(rows, nil)); ok || got != nil {
		t.Error("one is none")
	}
	if got, ok := change.Rows(s, drop, nil); !ok || len(got) != 0 {
		t.Error("no rows")
	}
}
