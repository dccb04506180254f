package sorts_test

import (
	"slices"
	"testing"

	"rabbet/api"
	"rabbet/sample"
	"rabbet/sorts"
)

func TestOrder(t *testing.T) {
	cols := [][]api.Value{
		sample.List(sample.Int(2), sample.Null(), sample.Int(1), sample.Int(2), sample.Text("a"), sample.Bool(1)),
		sample.Ints(5, 4, 3, 2, 1, 0),
		sample.Texts("x", "y", "x", "x", "y", "y"),
	}
	for _, x := range []struct {
		keys []sorts.Key
		want []int
	}{
		{nil, []int{0, 1, 2, 3, 4, 5}},
		{[]sorts.Key{{At: 0}}, []int{1, 2, 5, 0, 3, 4}},
		{[]sorts.Key{{At: 0, Down: true}}, []int{4, 0, 3, 2, 5, 1}},
		{[]sorts.Key{{At: 0}, {At: 1}}, []int{1, 5, 2, 3, 0, 4}},
		{[]sorts.Key{{At: 2}, {At: 0, Down: true}}, []int{0, 3, 2, 4, 5, 1}},
		{[]sorts.Key{{At: 2, Down: true}}, []int{1, 4, 5, 0, 2, 3}},
		{[]sorts.Key{{At: 3}, {At: -1, Down: true}, {At: 1}}, []int{5, 4, 3, 2, 1, 0}},
		{[]sorts.Key{{At: 1 << 62}}, []int{0, 1, 2, 3, 4, 5}},
	} {
		if got := sorts.Order(cols, x.keys); !slices.Equal(got, x.want) {
			t.Errorf("%v: %v", x.keys, got)
		}
	}
	if len(sorts.Order(nil, []sorts.Key{{At: 0}})) != 0 {
		t.Error("of no columns")
	}
}

func TestOrderOfUnevenColumns(t *testing.T) {
	cols := [][]api.Value{sample.Ints(3, 2, 1), sample.Ints(1, 2)}
	if got := sorts.Order(cols, []sorts.Key{{At: 0}}); !slices.Equal(got, []int{1, 0}) {
		t.Errorf("%v", got)
	}
}

func TestIs(t *testing.T) {
	cols := [][]api.Value{sample.Ints(1, 2, 2), sample.Ints(1, 3, 2), sample.List(sample.Null(), sample.Null(), sample.Int(-1), sample.Text("")), nil, sample.List(sample.Int(1), sample.Null())}
	for at, want := range []bool{true, false, true, true, false, true} {
		if sorts.Is(cols, at) != want {
			t.Errorf("column %d: %v", at, !want)
		}
	}
	if sorts.Is(cols[1:], 0) {
		t.Error("the first column")
	}
	if !sorts.Is(cols, -1) || !sorts.Is(nil, 0) {
		t.Error("no such column")
	}
}
