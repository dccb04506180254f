package cat_test

import (
	"reflect"
	"slices"
	"testing"

	"rabbet/api"
	"rabbet/cat"
	"rabbet/fresh"
	"rabbet/sample"
	"rabbet/schema"
)

func item(at, n int) api.Item {
	return api.Item{E: api.Extent{At: at, N: n}, Bytes: n * api.Size, Rows: 16, Part: 3}
}

// idleState is a table of two columns, two segments, two rows that wait.
func idleState() api.State {
	return api.State{
		Version: 4,
		Schema:  api.Schema{Cols: []api.Column{{ID: 2, Name: "a", Type: api.Small}, {ID: 5, Name: "b", Type: api.Text}}, Last: 6},
		Layout:  api.Layout{SortBy: 2, PartBy: 5, Parts: 2, Enc: []int{api.Delta, api.Dict}},
		Buffer:  []api.Row{sample.List(sample.Small(1), sample.Text("x")), sample.List(sample.Null(), sample.Null())},
		Segs:    []api.Item{item(10, 2), item(20, 1)},
	}
}

var widen = api.Change{Kind: api.Widen, Col: 2}

// busyState is that table while its column a is widened: the first segment is rewritten.
func busyState() api.State {
	s := idleState()
	s.Busy, s.Change, s.Todo, s.Done = true, widen, 2, 1
	s.NextS, s.NextL, _ = schema.Apply(s.Schema, s.Layout, widen)
	s.Next = []api.Item{item(12, 3)}
	return s
}

func TestMay(t *testing.T) {
	if !cat.May(idleState()) || !cat.May(busyState()) || cat.May(api.State{}) {
		t.Fatal("the states that the tests begin with")
	}
	most := idleState()
	most.Version, most.Segs, most.Buffer = 200, nil, nil
	for k := range 60 {
		most.Segs = append(most.Segs, item(1+2*k, 2))
	}
	most.Segs[59] = api.Item{E: api.Extent{At: 1 << 20, N: 1 << 20}, Bytes: 1, Rows: 1}
	for range 32 {
		most.Buffer = append(most.Buffer, make(api.Row, 2))
	}
	if !cat.May(most) {
		t.Error("as much as may be")
	}
	most.Version = 0
	if !cat.May(most) {
		t.Error("version 0")
	}
	next := busyState()
	for k := range 59 {
		next.Next = append(next.Next, item(100+k, 1))
	}
	if !cat.May(next) {
		t.Error("as many to come as may be")
	}
}

func TestMayNot(t *testing.T) {
	for i, turn := range []func(s *api.State){
		func(s *api.State) { s.Version = -1 }, func(s *api.State) { s.Version = 201 }, func(s *api.State) { s.Schema.Cols = nil }, func(s *api.State) { s.Schema.Last = 1 },
		func(s *api.State) { s.Layout.Enc = nil }, func(s *api.State) { s.Layout.Parts = 0 }, func(s *api.State) { s.Buffer = slices.Repeat(s.Buffer, 17) }, func(s *api.State) { s.Buffer[1] = nil }, func(s *api.State) { s.Buffer[0][0] = sample.Int(1) },
		func(s *api.State) { s.Segs[0].E.At = 0 }, func(s *api.State) { s.Segs[1].E.At = 1<<20 + 1 }, func(s *api.State) { s.Segs[1].E.N = 0 }, func(s *api.State) { s.Segs[1].E.N = 1<<20 + 1 }, func(s *api.State) { s.Segs[1].E.N = -1 },
		func(s *api.State) { s.Segs[0].Bytes = 0 }, func(s *api.State) { s.Segs[0].Bytes = 257 }, func(s *api.State) { s.Segs[0].Rows = 0 }, func(s *api.State) { s.Segs[0].Rows = 17 }, func(s *api.State) { s.Segs[0].Part = 4 }, func(s *api.State) { s.Segs[0].Part = -1 },
		func(s *api.State) { s.Segs[1].E.At = 11 }, func(s *api.State) { s.Segs[1].E.At = 10 }, func(s *api.State) { s.Segs[1].E = api.Extent{At: 5, N: 6}; s.Segs[1].Bytes = 9 },
		func(s *api.State) {
			for k := range 59 {
				s.Segs = append(s.Segs, item(100+k, 1))
			}
		},
	} {
		for _, s := range []api.State{idleState(), busyState()} {
			if turn(&s); cat.May(s) {
				t.Errorf("%d (busy: %v) may be", i, s.Busy)
			}
		}
	}
	for i, turn := range []func(s *api.State){
		func(s *api.State) { s.Change = widen }, func(s *api.State) { s.NextS.Last = 1 }, func(s *api.State) { s.NextS.Cols = s.Schema.Cols }, func(s *api.State) { s.NextL.Parts = 1 }, func(s *api.State) { s.NextL.Enc = []int{1} }, func(s *api.State) { s.NextL.SortBy = 1 }, func(s *api.State) { s.NextL.PartBy = 1 },
		func(s *api.State) { s.Todo = 1 }, func(s *api.State) { s.Done = 1 }, func(s *api.State) { s.Next = []api.Item{item(30, 1)} }, func(s *api.State) { s.Busy = true },
	} {
		s := idleState()
		if turn(&s); cat.May(s) {
			t.Errorf("idle, %d may be", i)
		}
	}
	for i, turn := range []func(s *api.State){
		func(s *api.State) { s.Change = api.Change{} }, func(s *api.State) { s.Change.Col = 5 }, func(s *api.State) { s.NextS = s.Schema }, func(s *api.State) { s.NextS.Last++ }, func(s *api.State) { s.NextL.SortBy = 0 }, func(s *api.State) { s.NextL.Enc[0] = 1 },
		func(s *api.State) { s.Done = 3 }, func(s *api.State) { s.Done = -1 }, func(s *api.State) { s.Todo = 3 }, func(s *api.State) { s.Todo, s.Done = -1, -1 }, func(s *api.State) { s.Next[0].E.At = 20 }, func(s *api.State) { s.Next[0].E.At = 9 }, func(s *api.State) { s.Next[0].Rows = 0 }, func(s *api.State) { s.Busy = false },
		func(s *api.State) {
			for k := range 60 {
				s.Next = append(s.Next, item(100+k, 1))
			}
		},
	} {
		s := busyState()
		if turn(&s); cat.May(s) {
			t.Errorf("busy, %d may be", i)
		}
	}
}

func TestExtents(t *testing.T) {
	if got := cat.Extents(busyState()); !slices.Equal(got, []api.Extent{{At: 10, N: 2}, {At: 20, N: 1}, {At: 12, N: 3}}) {
		t.Errorf("%v", got)
	}
	if len(cat.Extents(api.State{})) != 0 {
		t.Error("of nothing")
	}
}

func TestApply(t *testing.T) {
	row := sample.List(sample.Small(7), sample.Text("new"))
	for i, x := range []struct {
		s    api.State
		r    cat.Record
		turn func(s *api.State)
	}{
		{api.State{}, cat.Record{Kind: cat.All, State: busyState()}, func(s *api.State) { *s = busyState() }},
		{busyState(), cat.Record{Kind: cat.All, State: idleState()}, func(s *api.State) { *s = idleState() }},
		{idleState(), cat.Record{Kind: cat.Fresh, Rows: []api.Row{row}}, func(s *api.State) { s.Buffer = append(s.Buffer, row) }},
		{busyState(), cat.Record{Kind: cat.Fresh, Rows: []api.Row{row, row}}, func(s *api.State) { s.Buffer = append(s.Buffer, row, row) }},
		{idleState(), cat.Record{Kind: cat.Flushed, N: 1}, func(s *api.State) { s.Buffer = s.Buffer[1:] }},
		{idleState(), cat.Record{Kind: cat.Flushed, N: 2, Items: []api.Item{item(30, 1)}}, func(s *api.State) { s.Buffer, s.Segs = nil, append(s.Segs, item(30, 1)) }},
		{busyState(), cat.Record{Kind: cat.Flushed, N: 2, Items: []api.Item{item(30, 1)}, More: []api.Item{item(40, 1), item(50, 1)}}, func(s *api.State) {
			s.Buffer, s.Segs, s.Next = nil, append(s.Segs, item(30, 1)), append(s.Next, item(40, 1), item(50, 1))
		}},
		{idleState(), cat.Record{Kind: cat.Begun, Change: widen}, func(s *api.State) { *s = busyState(); s.Done, s.Next = 0, nil }},
		{busyState(), cat.Record{Kind: cat.Moved, Items: []api.Item{item(30, 1)}}, func(s *api.State) { s.Done, s.Next = 2, append(s.Next, item(30, 1)) }},
		{busyState(), cat.Record{Kind: cat.Moved}, func(s *api.State) { s.Done = 2 }},
		{busyState(), cat.Record{Kind: cat.Undone}, func(s *api.State) { *s = idleState() }},
	} {
		want := fresh.State(x.s)
		x.turn(&want)
		was := fresh.State(x.s)
		got, e := cat.Apply(x.s, x.r)
		if e != api.OK || !reflect.DeepEqual(fresh.State(got), fresh.State(want)) && !alike(got, want) {
			t.Errorf("%d: %v\n%v\n%v", i, e, got, want)
		}
		if !reflect.DeepEqual(x.s, was) || !cat.May(got) {
			t.Errorf("%d: what was handed in is changed", i)
		}
	}
}

// alike tells whether both have the same bytes: nil and an empty list are one.
func alike(a, b api.State) bool {
	return string(cat.Put(cat.Record{Kind: cat.All, State: a})) == string(cat.Put(cat.Record{Kind: cat.All, State: b}))
}

func TestCut(t *testing.T) {
	s := busyState()
	s.Done = 2
	want := api.State{Version: 5, Schema: s.NextS, Layout: s.NextL, Segs: s.Next, Buffer: []api.Row{sample.List(sample.Int(1), sample.Text("x")), make(api.Row, 2)}}
	got, e := cat.Apply(s, cat.Record{Kind: cat.Cut})
	if e != api.OK || !alike(got, want) || !cat.May(got) {
		t.Errorf("%v: %v", e, got)
	}
	got.Segs[0].Rows, got.Schema.Cols[0].ID, got.Layout.Enc[0] = 1, 9, 9
	if s.Next[0].Rows != 16 || s.NextS.Cols[0].ID != 2 || s.NextL.Enc[0] != api.Delta {
		t.Error("memory is shared")
	}
}

func TestApplyErrors(t *testing.T) {
	row := sample.List(sample.Small(7), sample.Text("new"))
	full := idleState()
	full.Buffer = slices.Repeat(full.Buffer, 15)
	last := idleState()
	last.Version = 200
	done := busyState()
	done.Done = 2
	lastBusy := done
	lastBusy.Version = 200
	for i, x := range []struct {
		s api.State
		r cat.Record
	}{
		{idleState(), cat.Record{}}, {idleState(), cat.Record{Kind: 8}}, {idleState(), cat.Record{Kind: -1}}, {idleState(), cat.Record{Kind: cat.All}}, {idleState(), cat.Record{Kind: cat.Fresh}},
		{idleState(), cat.Record{Kind: cat.Fresh, Rows: slices.Repeat([]api.Row{row}, 9)}}, {idleState(), cat.Record{Kind: cat.Fresh, Rows: []api.Row{row[:1]}}}, {full, cat.Record{Kind: cat.Fresh, Rows: []api.Row{row, row, row}}},
		{idleState(), cat.Record{Kind: cat.Flushed}}, {idleState(), cat.Record{Kind: cat.Flushed, N: 3}}, {idleState(), cat.Record{Kind: cat.Flushed, N: -1}}, {idleState(), cat.Record{Kind: cat.Flushed, N: 1, More: []api.Item{item(30, 1)}}}, {idleState(), cat.Record{Kind: cat.Flushed, N: 1, Items: []api.Item{item(11, 1)}}}, {idleState(), cat.Record{Kind: cat.Flushed, N: 1, Items: []api.Item{{}}}},
		{busyState(), cat.Record{Kind: cat.Begun, Change: widen}}, {last, cat.Record{Kind: cat.Begun, Change: widen}}, {idleState(), cat.Record{Kind: cat.Begun, Change: api.Change{Kind: api.Drop, Col: 2}}}, {idleState(), cat.Record{Kind: cat.Begun}},
		{idleState(), cat.Record{Kind: cat.Moved}}, {done, cat.Record{Kind: cat.Moved}}, {busyState(), cat.Record{Kind: cat.Moved, Items: []api.Item{item(12, 1)}}}, {busyState(), cat.Record{Kind: cat.Cut}}, {idleState(), cat.Record{Kind: cat.Cut}}, {lastBusy, cat.Record{Kind: cat.Cut}}, {idleState(), cat.Record{Kind: cat.Undone}},
		{busyState(), cat.Record{Kind: cat.Undone, N: 1}}, {busyState(), cat.Record{Kind: cat.Moved, More: []api.Item{item(30, 1)}}}, {idleState(), cat.Record{Kind: cat.Fresh, Rows: []api.Row{row}, State: api.State{Version: 1}}},
	} {
		if got, e := cat.Apply(x.s, x.r); e != api.EForm || !reflect.DeepEqual(got, api.State{}) {
			t.Errorf("%d: %v", i, e)
		}
	}
}

// TestBegunOfLast: a change may begin up to the last version but one.
func TestBegunOfLast(t *testing.T) {
	s := idleState()
	s.Version, s.Segs = 199, nil
	s, e := cat.Apply(s, cat.Record{Kind: cat.Begun, Change: widen})
	if e != api.OK {
		t.Fatal(e)
	}
	if s, e = cat.Apply(s, cat.Record{Kind: cat.Cut}); e != api.OK || s.Version != 200 {
		t.Error(e)
	}
}
