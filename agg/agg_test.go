package agg_test

import (
	"math"
	"testing"

	"rabbet/agg"
	"rabbet/api"
	"rabbet/batch"
	"rabbet/sample"
)

var table = [][]api.Value{
	sample.List(sample.Int(2), sample.Null(), sample.Int(1), sample.Int(2), sample.Null(), sample.Int(2)),
	sample.List(sample.Int(5), sample.Int(7), sample.Null(), sample.Null(), sample.Int(-7), sample.Int(3)),
	sample.Texts("b", "a", "c", "d", "a", "b"),
}

func rows(l ...[]api.Value) []api.Row {
	var rs []api.Row
	for _, r := range l {
		rs = append(rs, r)
	}
	return rs
}

func TestRun(t *testing.T) {
	null, i := sample.Null(), sample.Int
	for k, x := range []struct {
		by   []int
		aggs []agg.Agg
		want []api.Row
	}{
		{nil, []agg.Agg{{api.Count, -1}, {api.Count, 0}, {api.Count, 2}, {api.Sum, 1}, {api.Min, 1}, {api.Max, 2}}, rows(sample.List(i(6), i(4), i(6), i(8), i(-7), sample.Text("d")))},
		{[]int{0}, []agg.Agg{{api.Count, -9}, {api.Sum, 1}, {api.Min, 1}, {api.Max, 1}, {api.Count, 1}}, rows(sample.List(null, i(2), i(0), i(-7), i(7), i(2)), sample.List(i(1), i(1), null, null, null, i(0)), sample.List(i(2), i(3), i(8), i(3), i(5), i(2)))},
		{[]int{2, 0}, []agg.Agg{{api.Count, -1}}, rows(sample.List(sample.Text("a"), null, i(2)), sample.List(sample.Text("b"), i(2), i(2)), sample.List(sample.Text("c"), i(1), i(1)), sample.List(sample.Text("d"), i(2), i(1)))},
		{[]int{0, 0}, nil, rows(sample.List(null, null), sample.List(i(1), i(1)), sample.List(i(2), i(2)))},
	} {
		got, e := agg.Run(table, x.by, x.aggs)
		if e != api.OK || !batch.SameRows(got, x.want) {
			t.Errorf("%d: %v %v", k, e, got)
		}
	}
}

func TestNoRows(t *testing.T) {
	none := [][]api.Value{nil, nil}
	got, e := agg.Run(none, nil, []agg.Agg{{api.Count, -1}, {api.Count, 0}, {api.Sum, 0}, {api.Min, 1}, {api.Max, 1}})
	if e != api.OK || !batch.SameRows(got, rows(sample.List(sample.Int(0), sample.Int(0), sample.Null(), sample.Null(), sample.Null()))) {
		t.Errorf("%v %v", e, got)
	}
	if got, e := agg.Run(none, []int{0}, []agg.Agg{{api.Count, -1}}); e != api.OK || len(got) != 0 {
		t.Errorf("by a column: %v %v", e, got)
	}
	if got, e := agg.Run(nil, nil, []agg.Agg{{api.Count, -1}}); e != api.OK || len(got) != 1 || got[0][0] != sample.Int(0) {
		t.Errorf("of no columns: %v %v", e, got)
	}
}

func TestUnevenColumns(t *testing.T) {
	got, e := agg.Run([][]api.Value{sample.Ints(1, 2, 3), sample.Ints(4)}, nil, []agg.Agg{{api.Sum, 0}, {api.Count, -1}})
	if e != api.OK || !batch.SameRows(got, rows(sample.Ints(1, 1))) {
		t.Errorf("%v %v", e, got)
	}
}

// TestFirstOfAlike: of what is alike, the first one is told.
func TestFirstOfAlike(t *testing.T) {
	c := [][]api.Value{sample.List(sample.Bool(1), sample.Int(1), sample.Small(1)), sample.List(sample.Small(3), sample.Int(3), sample.Bool(0))}
	got, e := agg.Run(c, []int{0}, []agg.Agg{{api.Max, 1}, {api.Min, 0}, {api.Max, 0}})
	if e != api.OK || !batch.SameRows(got, rows(sample.List(sample.Bool(1), sample.Small(3), sample.Bool(1), sample.Bool(1)))) {
		t.Errorf("%v %v", e, got)
	}
}

func TestSum(t *testing.T) {
	for i, x := range []struct {
		l    []api.Value
		want api.Value
		e    api.Errno
	}{
		{sample.Ints(math.MaxInt64, math.MaxInt64, math.MinInt64, math.MinInt64), sample.Int(-2), api.OK}, {sample.Ints(math.MaxInt64, 1), api.Value{}, api.EOver}, {sample.Ints(math.MinInt64, -1), api.Value{}, api.EOver}, {sample.Ints(math.MinInt64), sample.Int(math.MinInt64), api.OK},
		{sample.Ints(math.MaxInt64, 1, -1), sample.Int(math.MaxInt64), api.OK}, {sample.Ints(math.MinInt64, math.MinInt64), api.Value{}, api.EOver}, {sample.Ints(math.MaxInt64, math.MaxInt64, 2), api.Value{}, api.EOver}, {sample.List(sample.Small(-4), sample.Int(6)), sample.Int(2), api.OK},
		{sample.Smalls(1), sample.Int(1), api.OK}, {sample.List(sample.Null(), sample.Null()), sample.Null(), api.OK}, {sample.Bools(1), api.Value{}, api.EType}, {sample.List(sample.Null(), sample.Text("a")), api.Value{}, api.EType}, {sample.List(sample.Int(math.MaxInt64), sample.Int(1), sample.Text("a")), api.Value{}, api.EType},
	} {
		got, e := agg.Run([][]api.Value{x.l}, nil, []agg.Agg{{api.Sum, 0}})
		if e != x.e || e == api.OK && got[0][0] != x.want || e != api.OK && got != nil {
			t.Errorf("%d: %v %v", i, e, got)
		}
	}
}

func TestErrors(t *testing.T) {
	for i, x := range []struct {
		by   []int
		aggs []agg.Agg
	}{
		{nil, []agg.Agg{{0, 0}}}, {nil, []agg.Agg{{5, 0}}}, {nil, []agg.Agg{{api.Count, -1}, {-1, 0}}}, {[]int{3}, nil}, {[]int{-1}, nil}, {[]int{0, 1 << 62}, nil},
		{nil, []agg.Agg{{api.Sum, -1}}}, {nil, []agg.Agg{{api.Min, -1}}}, {nil, []agg.Agg{{api.Max, 3}}}, {nil, []agg.Agg{{api.Count, 3}}}, {nil, []agg.Agg{{api.Sum, 2}, {api.Sum, 3}}},
	} {
		if got, e := agg.Run(table, x.by, x.aggs); e != api.EArg || got != nil {
			t.Errorf("%d: %v %v", i, e, got)
		}
	}
}

func TestErrorsWithoutGroups(t *testing.T) {
	for _, op := range []int{0, 5} {
		if got, e := agg.Run([][]api.Value{nil}, []int{0}, []agg.Agg{{op, 0}}); e != api.EArg || got != nil {
			t.Errorf("op %d: %v", op, e)
		}
	}
}

// TestFirstError: group by group, aggregate by aggregate.
func TestFirstError(t *testing.T) {
	c := [][]api.Value{sample.Ints(2, 1, 1), sample.List(sample.Text("a"), sample.Int(math.MaxInt64), sample.Int(1)), sample.List(sample.Int(1), sample.Text("b"), sample.Int(1))}
	for i, x := range []struct {
		aggs []agg.Agg
		want api.Errno
	}{{[]agg.Agg{{api.Sum, 1}}, api.EOver}, {[]agg.Agg{{api.Sum, 1}, {api.Sum, 2}}, api.EOver}, {[]agg.Agg{{api.Sum, 2}, {api.Sum, 1}}, api.EType}, {[]agg.Agg{{api.Max, 2}, {api.Sum, 1}}, api.EOver}} {
		if got, e := agg.Run(c, []int{0}, x.aggs); e != x.want || got != nil {
			t.Errorf("%d: %v", i, e)
		}
	}
}

func TestNothingIsChanged(t *testing.T) {
	c := [][]api.Value{sample.Ints(3, 1, 2)}
	agg.Run(c, []int{0}, []agg.Agg{{api.Max, 0}})
	if c[0][0] != sample.Int(3) {
		t.Error("what was handed in is changed")
	}
}
