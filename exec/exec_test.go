package exec_test

import (
	"math"
	"slices"
	"testing"

	"rabbet/api"
	"rabbet/batch"
	"rabbet/exec"
	"rabbet/sample"
)

var cols = api.Schema{Cols: []api.Column{{ID: 1, Name: "n", Type: api.Int}, {ID: 2, Name: "t", Type: api.Text}, {ID: 3, Name: "b", Type: api.Bool}, {ID: 4, Name: "s", Type: api.Small}}, Last: 4}

// table is five rows in two batches, and one of none.
func table() [][][]api.Value {
	return [][][]api.Value{
		{sample.Ints(3, 1), sample.Texts("x", "y"), sample.List(sample.Bool(1), sample.Null()), sample.Smalls(1, 2)},
		{nil, nil, nil, nil},
		{sample.List(sample.Int(2), sample.Null(), sample.Int(1)), sample.Texts("x", "z", "x"), sample.Bools(0, 1, 1), sample.Smalls(3, 4, 5)},
	}
}

func rows(l ...[]api.Value) []api.Row {
	var rs []api.Row
	for _, r := range l {
		rs = append(rs, r)
	}
	return rs
}

// column is the last value of each row.
func column(l []api.Row) []api.Value {
	var c []api.Value
	for _, r := range l {
		c = append(c, r[len(r)-1])
	}
	return c
}

func TestCheckBounds(t *testing.T) {
	key, agg := api.Key{Name: "n"}, api.Agg{Op: api.Count}
	good := api.Query{Cols: slices.Repeat([]string{"n"}, 6), Aggs: slices.Repeat([]api.Agg{agg}, 4), Order: slices.Repeat([]api.Key{key}, 3), Limit: 1000}
	if e := exec.Check(cols, good); e != api.OK {
		t.Errorf("as much as may be: %v", e)
	}
	for i, x := range []struct {
		q    api.Query
		want api.Errno
	}{
		{api.Query{}, api.OK},
		{api.Query{Cols: slices.Repeat([]string{"n"}, 7)}, api.EArg}, {api.Query{Aggs: slices.Repeat([]api.Agg{agg}, 5)}, api.EArg}, {api.Query{Order: slices.Repeat([]api.Key{key}, 4)}, api.EArg}, {api.Query{Limit: -1}, api.EArg}, {api.Query{Limit: 1001}, api.EArg},
		{api.Query{Aggs: []api.Agg{{Op: 0}}}, api.EArg}, {api.Query{Aggs: []api.Agg{{Op: 5, Name: "n"}}}, api.EArg}, {api.Query{Aggs: []api.Agg{{Op: api.Min}}}, api.EArg}, {api.Query{Aggs: []api.Agg{{Op: api.Sum}}}, api.EArg},
		{api.Query{Where: []api.Test{{Name: "n", Op: 9}}, Cols: []string{"zz"}}, api.EArg}, {api.Query{Where: []api.Test{{Name: "zz", Op: 1}}}, api.ENone}, {api.Query{Where: []api.Test{{Name: "n", Op: 1, Value: sample.Text("a")}}, Cols: []string{"zz"}}, api.EType},
		{api.Query{Where: []api.Test{{Name: "zz", Op: 1}}, Limit: -1}, api.EArg}, {api.Query{Where: []api.Test{{Name: "n", Op: 1, Value: sample.Text("a")}}, Aggs: []api.Agg{{Op: 9}}}, api.EArg},
		{api.Query{Cols: []string{"n", "zz"}}, api.ENone}, {api.Query{Cols: []string{""}}, api.ENone}, {api.Query{Aggs: []api.Agg{{Op: api.Count, Name: "zz"}}}, api.ENone}, {api.Query{Aggs: []api.Agg{{Op: api.Sum, Name: "zz"}}}, api.ENone}, {api.Query{Order: []api.Key{{Name: "zz"}}}, api.ENone}, {api.Query{Order: []api.Key{{}}}, api.ENone},
		{api.Query{Cols: []string{"t"}, Order: []api.Key{key}}, api.OK}, {api.Query{Cols: []string{"t"}, Aggs: []api.Agg{agg}, Order: []api.Key{key}}, api.ENone}, {api.Query{Aggs: []api.Agg{agg}, Order: []api.Key{key}}, api.ENone}, {api.Query{Cols: []string{"t", "n"}, Aggs: []api.Agg{agg}, Order: []api.Key{key}}, api.OK},
		{api.Query{Aggs: []api.Agg{{Op: api.Sum, Name: "t"}}}, api.EType}, {api.Query{Aggs: []api.Agg{{Op: api.Sum, Name: "b"}}}, api.EType}, {api.Query{Aggs: []api.Agg{{Op: api.Sum, Name: "s"}, {Op: api.Sum, Name: "n"}, {Op: api.Min, Name: "t"}, {Op: api.Max, Name: "b"}}}, api.OK},
		{api.Query{Aggs: []api.Agg{{Op: api.Sum, Name: "t"}}, Order: []api.Key{{Name: "zz"}}}, api.ENone}, {api.Query{Aggs: []api.Agg{{Op: api.Sum, Name: "t"}}, Where: []api.Test{{Name: "zz", Op: 1}}}, api.ENone},
	} {
		if e := exec.Check(cols, x.q); e != x.want {
			t.Errorf("%d: %v, not %v", i, e, x.want)
		}
		if got, e := exec.Run(cols, table(), x.q); e != x.want || e != api.OK && got != nil {
			t.Errorf("%d: Run: %v, not %v", i, e, x.want)
		}
	}
}

func TestAllRows(t *testing.T) {
	var want []api.Row
	for _, b := range table() {
		want = append(want, batch.Rows(b)...)
	}
	got, e := exec.Run(cols, table(), api.Query{})
	if e != api.OK || !batch.SameRows(got, want) {
		t.Errorf("%v %v", e, got)
	}
	if got, e := exec.Run(cols, nil, api.Query{}); e != api.OK || len(got) != 0 {
		t.Errorf("of no rows: %v %v", e, got)
	}
}

func TestRows(t *testing.T) {
	for i, x := range []struct {
		q    api.Query
		want []api.Value
	}{
		{api.Query{Cols: []string{"t", "s"}}, sample.Smalls(1, 2, 3, 4, 5)},
		{api.Query{Where: []api.Test{{Name: "n", Op: api.Most, Value: sample.Int(2)}}}, sample.Smalls(2, 3, 5)},
		{api.Query{Where: []api.Test{{Name: "n", Op: api.Most, Value: sample.Int(2)}}, Limit: 2}, sample.Smalls(2, 3)},
		{api.Query{Order: []api.Key{{Name: "n"}}}, sample.Smalls(4, 2, 5, 3, 1)},
		{api.Query{Order: []api.Key{{Name: "n", Down: true}}}, sample.Smalls(1, 3, 2, 5, 4)},
		{api.Query{Order: []api.Key{{Name: "t"}, {Name: "s", Down: true}}}, sample.Smalls(5, 3, 1, 2, 4)},
		{api.Query{Order: []api.Key{{Name: "t"}, {Name: "s", Down: true}}, Limit: 4}, sample.Smalls(5, 3, 1, 2)},
		{api.Query{Order: []api.Key{{Name: "n"}}, Cols: []string{"s", "s"}, Limit: 1000}, sample.Smalls(4, 2, 5, 3, 1)},
		{api.Query{Where: []api.Test{{Name: "t", Op: api.Null}}}, nil},
	} {
		got, e := exec.Run(cols, table(), x.q)
		if e != api.OK || !slices.Equal(column(got), x.want) {
			t.Errorf("%d: %v %v", i, e, got)
		}
	}
	got, _ := exec.Run(cols, table(), api.Query{Cols: []string{"s", "t", "s"}, Limit: 1})
	if !batch.SameRows(got, rows(sample.List(sample.Small(1), sample.Text("x"), sample.Small(1)))) {
		t.Errorf("columns in that order: %v", got)
	}
}

func TestGroups(t *testing.T) {
	x, y, z := sample.Text("x"), sample.Text("y"), sample.Text("z")
	i := sample.Int
	aggs := []api.Agg{{Op: api.Count}, {Op: api.Sum, Name: "n"}, {Op: api.Max, Name: "s"}, {Op: api.Count, Name: "b"}}
	for k, q := range []struct {
		q    api.Query
		want []api.Row
	}{
		{api.Query{Aggs: aggs}, rows(sample.List(i(5), i(7), sample.Small(5), i(4)))},
		{api.Query{Aggs: aggs, Cols: []string{"t"}}, rows(sample.List(x, i(3), i(6), sample.Small(5), i(3)), sample.List(y, i(1), i(1), sample.Small(2), i(0)), sample.List(z, i(1), sample.Null(), sample.Small(4), i(1)))},
		{api.Query{Aggs: aggs[:1], Cols: []string{"t"}, Order: []api.Key{{Name: "t", Down: true}}, Limit: 2}, rows(sample.List(z, i(1)), sample.List(y, i(1)))},
		{api.Query{Aggs: aggs[:1], Cols: []string{"b", "t"}, Order: []api.Key{{Name: "t"}}}, rows(sample.List(sample.Bool(0), x, i(1)), sample.List(sample.Bool(1), x, i(2)), sample.List(sample.Null(), y, i(1)), sample.List(sample.Bool(1), z, i(1)))},
		{api.Query{Aggs: aggs[:1], Cols: []string{"n"}, Where: []api.Test{{Name: "t", Op: api.Equal, Value: x}}}, rows(sample.List(i(1), i(1)), sample.List(i(2), i(1)), sample.List(i(3), i(1)))},
		{api.Query{Aggs: aggs[:2], Where: []api.Test{{Name: "t", Op: api.Null}}}, rows(sample.List(i(0), sample.Null()))},
		{api.Query{Aggs: aggs[:2], Cols: []string{"t"}, Where: []api.Test{{Name: "t", Op: api.Null}}}, nil},
	} {
		got, e := exec.Run(cols, table(), q.q)
		if e != api.OK || !batch.SameRows(got, q.want) {
			t.Errorf("%d: %v %v", k, e, got)
		}
	}
	if got, e := exec.Run(cols, nil, api.Query{Aggs: aggs[:1]}); e != api.OK || !batch.SameRows(got, rows(sample.List(i(0)))) {
		t.Errorf("of no batches: %v %v", e, got)
	}
}

// TestWideGroups: six columns and four aggregates of them.
func TestWideGroups(t *testing.T) {
	q := api.Query{Cols: []string{"n", "t", "b", "s", "n", "t"}, Aggs: slices.Repeat([]api.Agg{{Op: api.Count}}, 4), Order: []api.Key{{Name: "s", Down: true}}}
	got, e := exec.Run(cols, table(), q)
	if e != api.OK || len(got) != 5 || len(got[0]) != 10 || got[0][3] != sample.Small(5) {
		t.Errorf("%v %v", e, got)
	}
}

func TestSumOver(t *testing.T) {
	b := [][][]api.Value{{sample.Ints(math.MaxInt64, 1), sample.Texts("", ""), sample.Bools(0, 0), sample.Smalls(0, 0)}}
	if got, e := exec.Run(cols, b, api.Query{Aggs: []api.Agg{{Op: api.Sum, Name: "n"}}}); e != api.EOver || got != nil {
		t.Errorf("%v %v", e, got)
	}
}

// TestHoweverRowsLie: the same rows in other batches tell the same.
func TestHoweverRowsLie(t *testing.T) {
	var one [][]api.Value
	for c := range 4 {
		var l []api.Value
		for _, b := range table() {
			l = append(l, b[c]...)
		}
		one = append(one, l)
	}
	for _, q := range []api.Query{{}, {Order: []api.Key{{Name: "n"}}, Limit: 3}, {Cols: []string{"t"}, Aggs: []api.Agg{{Op: api.Min, Name: "n"}}}} {
		a, _ := exec.Run(cols, table(), q)
		b, e := exec.Run(cols, [][][]api.Value{one}, q)
		if e != api.OK || !batch.SameRows(a, b) {
			t.Errorf("%v: %v, %v", q, a, b)
		}
	}
}

func TestNewMemory(t *testing.T) {
	b := table()
	got, _ := exec.Run(cols, b, api.Query{Order: []api.Key{{Name: "n"}}})
	got[0][0], got[1][1] = sample.Int(9), sample.Text("q")
	again, _ := exec.Run(cols, b, api.Query{Order: []api.Key{{Name: "n"}}})
	if again[0][0] != sample.Null() || again[1][1] != sample.Text("y") {
		t.Error("memory is shared")
	}
}

// TestWhatDoesNotFit: batches that are none end no call otherwise.
func TestWhatDoesNotFit(t *testing.T) {
	for _, q := range []api.Query{{}, {Order: []api.Key{{Name: "s"}}}, {Aggs: []api.Agg{{Op: api.Sum, Name: "n"}}, Cols: []string{"b"}}} {
		for _, b := range [][][]api.Value{nil, {sample.Ints(1)}, {sample.Texts("a"), nil}, {nil, nil, nil, nil, sample.Ints(1), sample.Ints(1)}, {sample.Texts("a"), sample.Ints(1), sample.Ints(1), sample.Ints(1), sample.Ints(1)}} {
			exec.Run(cols, [][][]api.Value{b}, q)
		}
	}
}
