package schema_test

import (
	"strings"
	"testing"

	"rabbet/api"
	"rabbet/fresh"
	"rabbet/sample"
	"rabbet/schema"
)

func base() (api.Schema, api.Layout) {
	s := api.Schema{Cols: []api.Column{{ID: 3, Name: "a", Type: api.Int}, {ID: 1, Name: "b", Type: api.Text}, {ID: 4, Name: "c", Type: api.Bool}, {ID: 6, Name: "d", Type: api.Small}, {ID: 5, Name: "e", Type: api.Text}}, Last: 7}
	return s, api.Layout{SortBy: 3, PartBy: 5, Parts: 2, Enc: []int{api.Delta, api.Dict, api.RLE, api.Pack, api.Plain}}
}

func TestMayName(t *testing.T) {
	for s, want := range map[string]bool{"": false, "a": true, "!~": true, "a b": false, " ": false, "\x7f": false, "é": false, strings.Repeat("x", 12): true, strings.Repeat("x", 13): false, "a\x00": false} {
		if schema.MayName(s) != want {
			t.Errorf("%q: %v", s, !want)
		}
	}
}

func TestMay(t *testing.T) {
	good, _ := base()
	if !schema.May(good) {
		t.Fatal("base")
	}
	for i, turn := range []func(s *api.Schema){
		func(s *api.Schema) { s.Cols = nil },
		func(s *api.Schema) { s.Cols = s.Cols[:0] },
		func(s *api.Schema) {
			s.Cols = append(s.Cols, api.Column{ID: 2, Name: "f", Type: 1}, api.Column{ID: 7, Name: "g", Type: 1})
		},
		func(s *api.Schema) { s.Cols[1].ID = 3 },
		func(s *api.Schema) { s.Cols[1].ID = 0 },
		func(s *api.Schema) { s.Cols[1].ID = 8 },
		func(s *api.Schema) { s.Last = 5 },
		func(s *api.Schema) { s.Cols[1].Name = "a" },
		func(s *api.Schema) { s.Cols[1].Name = "" },
		func(s *api.Schema) { s.Cols[1].Type = 0 },
		func(s *api.Schema) { s.Cols[1].Type = 5 },
		func(s *api.Schema) { s.Last = 10001 },
	} {
		s := fresh.Schema(good)
		if turn(&s); schema.May(s) {
			t.Errorf("%d: %v may be", i, s)
		}
	}
	if !schema.May(api.Schema{Cols: good.Cols[:1], Last: 3}) {
		t.Error("one column")
	}
	good.Cols, good.Last = append(good.Cols, api.Column{ID: 10000, Name: "f", Type: api.Text}), 10000
	if !schema.May(good) {
		t.Error("six columns, the last ID")
	}
}

func TestFind(t *testing.T) {
	s, _ := base()
	for i, c := range s.Cols {
		if at, ok := schema.Find(s, c.Name); at != i || !ok {
			t.Errorf("Find of %s: %d %v", c.Name, at, ok)
		}
		if at, ok := schema.ByID(s, c.ID); at != i || !ok {
			t.Errorf("ByID of %d: %d %v", c.ID, at, ok)
		}
	}
	if at, ok := schema.Find(s, "z"); at != 0 || ok {
		t.Error("no such name")
	}
	if at, ok := schema.ByID(s, 2); at != 0 || ok {
		t.Error("no such ID")
	}
	twice := api.Schema{Cols: []api.Column{{ID: 2, Name: "x"}, {ID: 1, Name: "y"}, {ID: 1, Name: "y"}}}
	if at, _ := schema.Find(twice, "y"); at != 1 {
		t.Error("of several the first one's")
	}
	if at, _ := schema.ByID(twice, 1); at != 1 {
		t.Error("of several the first one's")
	}
}

func TestMayLayout(t *testing.T) {
	s, good := base()
	for i, x := range []struct {
		turn func(l *api.Layout)
		want bool
	}{
		{func(l *api.Layout) {}, true},
		{func(l *api.Layout) { l.SortBy = 0 }, true},
		{func(l *api.Layout) { l.SortBy = 2 }, false},
		{func(l *api.Layout) { l.SortBy = -1 }, false},
		{func(l *api.Layout) { l.Parts = 4 }, true},
		{func(l *api.Layout) { l.Parts = 5 }, false},
		{func(l *api.Layout) { l.Parts = 0 }, false},
		{func(l *api.Layout) { l.Parts = 1 }, true},
		{func(l *api.Layout) { l.PartBy = 0 }, false},
		{func(l *api.Layout) { l.PartBy, l.Parts = 0, 1 }, true},
		{func(l *api.Layout) { l.PartBy, l.Parts = 2, 1 }, false},
		{func(l *api.Layout) { l.Enc = l.Enc[1:] }, false},
		{func(l *api.Layout) { l.Enc = append(l.Enc, 1) }, false},
		{func(l *api.Layout) { l.Enc[4] = 0 }, false},
		{func(l *api.Layout) { l.Enc[4] = 6 }, false},
	} {
		l := fresh.Layout(good)
		if x.turn(&l); schema.MayLayout(s, l) != x.want {
			t.Errorf("%d: %v", i, l)
		}
	}
}

func TestFits(t *testing.T) {
	s, _ := base()
	full := sample.List(sample.Int(1<<40), sample.Text("x"), sample.Bool(1), sample.Small(-5), sample.Text(""))
	for i, x := range []struct {
		r    api.Row
		want bool
	}{
		{full, true}, {make(api.Row, 5), true}, {full[:4], false}, {append(append(api.Row{}, full...), sample.Null()), false}, {nil, false},
		{sample.List(sample.Small(1), sample.Text("x"), sample.Bool(1), sample.Small(-5), sample.Text("")), false},
		{sample.List(sample.Int(1), sample.Text("x"), sample.Bool(2), sample.Small(-5), sample.Text("")), false},
	} {
		if schema.Fits(s, x.r) != x.want {
			t.Errorf("%d: %v", i, x.r)
		}
	}
	if !schema.Fits(api.Schema{}, nil) {
		t.Error("no values of no columns")
	}
}
