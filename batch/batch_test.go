package batch_test

import (
	"slices"
	"testing"

	"rabbet/api"
	"rabbet/batch"
	"rabbet/sample"
)

func rows(l ...[]api.Value) []api.Row {
	var rs []api.Row
	for _, r := range l {
		rs = append(rs, r)
	}
	return rs
}

func sameCols(a, b [][]api.Value) bool {
	return slices.EqualFunc(a, b, func(x, y []api.Value) bool { return slices.Equal(x, y) })
}

func TestColumnsRows(t *testing.T) {
	two := rows(sample.Ints(1, 2), sample.List(sample.Null(), sample.Text("a")))
	cols, ok := batch.Columns(two, 2)
	if !ok || !sameCols(cols, [][]api.Value{sample.List(sample.Int(1), sample.Null()), sample.List(sample.Int(2), sample.Text("a"))}) {
		t.Errorf("Columns: %v %v", cols, ok)
	}
	if !batch.SameRows(batch.Rows(cols), two) {
		t.Errorf("Rows: %v", batch.Rows(cols))
	}
	cols[0][0] = sample.Int(9)
	if two[0][0] != sample.Int(1) {
		t.Error("what is told is not new memory")
	}
	if cols, ok := batch.Columns(rows(sample.Ints(1), sample.Ints(2)), 1); !ok || !sameCols(cols, [][]api.Value{sample.Ints(1, 2)}) || !batch.SameRows(batch.Rows(cols), rows(sample.Ints(1), sample.Ints(2))) {
		t.Errorf("one column: %v", cols)
	}
	if cols, ok := batch.Columns(nil, 6); !ok || len(cols) != 6 || len(cols[5]) != 0 {
		t.Error("no rows: columns of no values")
	}
	for i, x := range []struct {
		rows  []api.Row
		width int
	}{{nil, 0}, {nil, 7}, {nil, -1}, {two, 1}, {two, 3}, {rows(sample.Ints(1, 2), sample.Ints(1)), 2}, {rows(sample.Ints(1, 2), nil), 2}, {rows(sample.Ints(1, 2, 3, 4, 5, 6, 7)), 7}} {
		if cols, ok := batch.Columns(x.rows, x.width); ok || cols != nil {
			t.Errorf("%d: %v", i, cols)
		}
	}
}

func TestRowsOfUnevenColumns(t *testing.T) {
	if got := batch.Rows([][]api.Value{sample.Ints(1, 2, 3), sample.Ints(4, 5)}); !batch.SameRows(got, rows(sample.Ints(1, 4), sample.Ints(2, 5))) {
		t.Errorf("%v", got)
	}
	if batch.Rows(nil) != nil || len(batch.Rows([][]api.Value{sample.Ints(1), nil})) != 0 {
		t.Error("rows of nothing")
	}
}

func TestPick(t *testing.T) {
	cols := [][]api.Value{sample.Ints(1, 2, 3), sample.Ints(4, 5)}
	if got := batch.Pick(cols, []int{2, 0, -1, 0, 9, 1}); !sameCols(got, [][]api.Value{sample.Ints(3, 1, 1, 2), sample.Ints(4, 4, 5)}) {
		t.Errorf("%v", got)
	}
	if got := batch.Pick(cols, nil); !sameCols(got, [][]api.Value{nil, nil}) {
		t.Errorf("%v", got)
	}
	if len(batch.Pick(nil, []int{0})) != 0 {
		t.Error("of no columns")
	}
}

func TestPlaces(t *testing.T) {
	for _, x := range []struct{ a, b, meet, join []int }{
		{[]int{1, 2}, []int{2, 3}, []int{2}, []int{1, 2, 3}}, {nil, nil, nil, nil}, {[]int{1}, nil, nil, []int{1}}, {nil, []int{4, 7}, nil, []int{4, 7}},
		{[]int{1, 1, 5}, []int{1, 5, 5, 6}, []int{1, 5}, []int{1, 5, 6}}, {[]int{0, 2, 4}, []int{1, 3}, nil, []int{0, 1, 2, 3, 4}},
	} {
		if !slices.Equal(batch.Meet(x.a, x.b), x.meet) || !slices.Equal(batch.Join(x.a, x.b), x.join) {
			t.Errorf("%v, %v: %v, %v", x.a, x.b, batch.Meet(x.a, x.b), batch.Join(x.a, x.b))
		}
	}
	for _, x := range []struct {
		a    []int
		n    int
		want []int
	}{{nil, 3, []int{0, 1, 2}}, {[]int{1}, 3, []int{0, 2}}, {[]int{0, 1, 2}, 3, nil}, {[]int{1}, 0, nil}, {nil, -5, nil}, {[]int{-1, 1, 7}, 3, []int{0, 2}}} {
		if !slices.Equal(batch.Rest(x.a, x.n), x.want) {
			t.Errorf("Rest(%v, %d): %v", x.a, x.n, batch.Rest(x.a, x.n))
		}
	}
}

func TestPlacesAreNewMemory(t *testing.T) {
	a, b := append(make([]int, 0, 9), 1, 2), []int{3}
	j := batch.Join(a, b)
	j[0] = 7
	if a[0] != 1 || a[:3][2] != 0 {
		t.Error("a list that was handed in is changed")
	}
}

func TestSame(t *testing.T) {
	a := rows(sample.Ints(1, 2), sample.Ints(3, 4), sample.Ints(1, 2))
	for i, x := range []struct {
		b         []api.Row
		rows, bag bool
	}{
		{a, true, true},
		{rows(sample.Ints(3, 4), sample.Ints(1, 2), sample.Ints(1, 2)), false, true},
		{rows(sample.Ints(3, 4), sample.Ints(3, 4), sample.Ints(1, 2)), false, false},
		{rows(sample.Ints(1, 2), sample.Ints(3, 4)), false, false},
		{rows(sample.Ints(1, 2), sample.Ints(3, 4), sample.Ints(1)), false, false},
		{rows(sample.Ints(1, 2), sample.Ints(3, 4), sample.Smalls(1, 2)), false, false},
		{rows(sample.Ints(1, 2), sample.Ints(3, 4), sample.List(sample.Int(1), api.Value{Type: api.Int, I: 2, S: "a"})), false, false},
		{nil, false, false},
	} {
		if batch.SameRows(a, x.b) != x.rows || batch.SameBag(a, x.b) != x.bag || batch.SameBag(x.b, a) != x.bag {
			t.Errorf("%d", i)
		}
	}
	if a[1][0] != sample.Int(3) || !batch.SameRows(nil, []api.Row{}) || !batch.SameBag(nil, []api.Row{}) || !batch.SameRows([]api.Row{nil}, []api.Row{{}}) {
		t.Error("nil and an empty list are one, and nothing is changed")
	}
}
