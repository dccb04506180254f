package pred_test

import (
	"math/rand"
	"slices"
	"testing"

	"rabbet/api"
	"rabbet/pred"
	"rabbet/sample"
	"rabbet/zone"
)

var cols = api.Schema{Cols: []api.Column{{ID: 1, Name: "n", Type: api.Int}, {ID: 2, Name: "t", Type: api.Text}, {ID: 3, Name: "b", Type: api.Bool}}, Last: 3}

func test(name string, op int, v api.Value) api.Test { return api.Test{Name: name, Op: op, Value: v} }

func or(t api.Test) api.Test {
	t.Or = true
	return t
}

func not(t api.Test) api.Test {
	t.Not = true
	return t
}

func TestCheck(t *testing.T) {
	good := test("n", api.Equal, sample.Int(1))
	for i, x := range []struct {
		l    []api.Test
		want api.Errno
	}{
		{nil, api.OK}, {[]api.Test{good}, api.OK}, {slices.Repeat([]api.Test{good}, 8), api.OK}, {slices.Repeat([]api.Test{good}, 9), api.EArg},
		{[]api.Test{test("n", 0, sample.Int(1))}, api.EArg}, {[]api.Test{test("n", 9, sample.Int(1))}, api.EArg}, {[]api.Test{test("n", api.Null, api.Value{I: 1})}, api.EArg}, {[]api.Test{test("n", api.Equal, api.Value{Type: 5})}, api.EArg},
		{[]api.Test{test("z", api.Equal, sample.Int(1))}, api.ENone}, {[]api.Test{test("", api.Null, sample.Null())}, api.ENone},
		{[]api.Test{test("n", api.Equal, sample.Text("a"))}, api.EType}, {[]api.Test{test("t", api.More, sample.Int(1))}, api.EType}, {[]api.Test{test("b", api.Least, sample.Text("a"))}, api.EType},
		{[]api.Test{test("n", api.Equal, sample.Bool(1))}, api.OK}, {[]api.Test{test("b", api.Equal, sample.Small(9))}, api.OK}, {[]api.Test{test("t", api.Less, sample.Text("a"))}, api.OK}, {[]api.Test{test("t", api.Less, sample.Null())}, api.OK},
		{[]api.Test{test("n", api.Null, sample.Text("a"))}, api.OK}, {[]api.Test{test("t", api.NotNull, sample.Int(1))}, api.OK},
		{[]api.Test{test("z", api.Equal, sample.Int(1)), test("n", 0, sample.Int(1))}, api.EArg},
		{[]api.Test{test("n", api.Equal, sample.Text("")), test("z", api.Equal, sample.Int(1))}, api.EType},
		{[]api.Test{test("z", api.Equal, sample.Text("")), test("n", api.Equal, sample.Text(""))}, api.ENone},
	} {
		if e := pred.Check(cols, x.l); e != x.want {
			t.Errorf("%d: %v, not %v", i, e, x.want)
		}
	}
}

func TestOneTest(t *testing.T) {
	row := func(v api.Value) api.Row { return sample.List(v, sample.Text("m"), sample.Bool(1)) }
	for _, x := range []struct {
		op   int
		want [4]int // of nothing, 4, 5, 6 against 5
		null int    // of 5 against nothing
	}{
		{api.Equal, [4]int{1, 0, 2, 0}, 1}, {api.Unequal, [4]int{1, 2, 0, 2}, 1}, {api.Less, [4]int{1, 2, 0, 0}, 1}, {api.Most, [4]int{1, 2, 2, 0}, 1}, {api.More, [4]int{1, 0, 0, 2}, 1}, {api.Least, [4]int{1, 0, 2, 2}, 1}, {api.Null, [4]int{2, 0, 0, 0}, 0}, {api.NotNull, [4]int{0, 2, 2, 2}, 2},
	} {
		for i, v := range []api.Value{sample.Null(), sample.Int(4), sample.Int(5), sample.Int(6)} {
			one := test("n", x.op, sample.Int(5))
			if got := pred.Row(cols, []api.Test{one}, row(v)); got != x.want[i] {
				t.Errorf("op %d of %v: %d", x.op, v, got)
			}
			if got := pred.Row(cols, []api.Test{not(one)}, row(v)); got != 2-x.want[i] {
				t.Errorf("not op %d of %v: %d", x.op, v, got)
			}
		}
		if got := pred.Row(cols, []api.Test{test("n", x.op, sample.Null())}, row(sample.Int(5))); got != x.null {
			t.Errorf("op %d against nothing: %d", x.op, got)
		}
	}
	if pred.Row(cols, []api.Test{test("t", api.More, sample.Text("l"))}, row(sample.Null())) != 2 || pred.Row(cols, []api.Test{test("b", api.Equal, sample.Int(1))}, row(sample.Null())) != 2 {
		t.Error("of the other columns")
	}
}

func TestGroups(t *testing.T) {
	is := []api.Test{test("n", api.Null, sample.Null()), test("n", api.Equal, sample.Int(0)), test("n", api.NotNull, sample.Null())} // of nothing: 2, 1, 0
	y, w, n := is[0], is[1], is[2]
	row := sample.List(sample.Null(), sample.Null(), sample.Null())
	for i, x := range []struct {
		l    []api.Test
		want int
	}{
		{nil, 2}, {[]api.Test{y, y}, 2}, {[]api.Test{y, w}, 1}, {[]api.Test{w, n}, 0}, {[]api.Test{n, or(y)}, 2}, {[]api.Test{or(n), y}, 0}, {[]api.Test{or(y)}, 2},
		{[]api.Test{y, n, or(y), w}, 1}, {[]api.Test{y, or(n), n}, 2}, {[]api.Test{n, y, or(w), y, or(n)}, 1}, {[]api.Test{n, or(n), or(w), n}, 0}, {[]api.Test{w, or(not(n))}, 2}, {[]api.Test{not(y), or(not(w))}, 1},
	} {
		if got := pred.Row(cols, x.l, row); got != x.want {
			t.Errorf("%d: %d", i, got)
		}
	}
}

func TestRows(t *testing.T) {
	c := [][]api.Value{sample.List(sample.Int(1), sample.Null(), sample.Int(3), sample.Int(2)), sample.Texts("a", "b", "c", "d"), sample.Bools(0, 0, 0, 0)}
	for i, x := range []struct {
		l    []api.Test
		want []int
	}{
		{nil, []int{0, 1, 2, 3}}, {[]api.Test{test("n", api.More, sample.Int(1))}, []int{2, 3}}, {[]api.Test{not(test("n", api.More, sample.Int(1)))}, []int{0}}, {[]api.Test{test("n", api.Equal, sample.Null())}, nil},
		{[]api.Test{test("n", api.Equal, sample.Int(3)), or(test("t", api.Equal, sample.Text("b")))}, []int{1, 2}},
	} {
		if got := pred.Rows(cols, x.l, c); !slices.Equal(got, x.want) {
			t.Errorf("%d: %v", i, got)
		}
	}
	if len(pred.Rows(cols, nil, nil)) != 0 {
		t.Error("of no rows")
	}
}

func TestCan(t *testing.T) {
	zones := []api.Zone{zone.Of(sample.Ints(3, 5)), zone.Of(sample.List(sample.Null(), sample.Text("k"))), zone.Of(sample.List(sample.Null(), sample.Null()))}
	can, cannot := test("n", api.Equal, sample.Int(4)), test("n", api.Equal, sample.Int(6))
	for i, x := range []struct {
		l    []api.Test
		want bool
	}{
		{nil, true}, {[]api.Test{can}, true}, {[]api.Test{cannot}, false}, {[]api.Test{not(cannot)}, true}, {[]api.Test{can, cannot}, false}, {[]api.Test{cannot, or(can)}, true}, {[]api.Test{can, or(cannot)}, true}, {[]api.Test{can, cannot, or(cannot), can}, false}, {[]api.Test{can, cannot, or(can), can}, true}, {[]api.Test{or(cannot)}, false},
		{[]api.Test{test("b", api.NotNull, sample.Null())}, false}, {[]api.Test{test("t", api.NotNull, sample.Null())}, true}, {[]api.Test{test("t", api.Null, sample.Null())}, true}, {[]api.Test{test("n", api.Null, sample.Null())}, false}, {[]api.Test{test("t", api.Less, sample.Text("k"))}, false}, {[]api.Test{test("n", api.Equal, sample.Null())}, false}, {[]api.Test{cannot, or(not(cannot))}, true},
	} {
		if got := pred.Can(cols, x.l, 2, zones); got != x.want {
			t.Errorf("%d: %v", i, got)
		}
	}
}

// TestWhoPassesIsInASegmentThatCan: Can says no only where no row passes.
func TestWhoPassesIsInASegmentThatCan(t *testing.T) {
	r := rand.New(rand.NewSource(9))
	some := func() api.Value {
		if r.Intn(4) == 0 {
			return sample.Null()
		}
		return sample.Int(int64(r.Intn(4)))
	}
	ruled := 0
	for range 20000 {
		c := [][]api.Value{nil, nil, nil}
		var zones []api.Zone
		n := 1 + r.Intn(3)
		for i := range c {
			for range n {
				c[i] = append(c[i], some())
			}
			zones = append(zones, zone.Of(c[i]))
		}
		var l []api.Test
		for range r.Intn(5) {
			l = append(l, api.Test{Name: []string{"n", "b"}[r.Intn(2)], Op: 1 + r.Intn(8), Value: some(), Or: r.Intn(3) == 0, Not: r.Intn(3) == 0})
		}
		if !pred.Can(cols, l, n, zones) {
			ruled++
			if len(pred.Rows(cols, l, c)) > 0 {
				t.Fatalf("%v passes %v", c, l)
			}
		}
	}
	if ruled < 1000 {
		t.Errorf("only %d are ruled out", ruled)
	}
}

// TestWhatDoesNotFit: rows, zones and names that there are not end no call otherwise.
func TestWhatDoesNotFit(t *testing.T) {
	l := []api.Test{test("t", api.Equal, sample.Text("a")), test("zz", 77, api.Value{Type: 9})}
	pred.Row(cols, l, nil)
	pred.Rows(cols, l, [][]api.Value{sample.Ints(1)})
	pred.Can(cols, l, -1, nil)
	pred.Can(cols, []api.Test{test("n", api.Equal, sample.Int(1))}, 1, nil)
	pred.Can(cols, l, 1, make([]api.Zone, 1))
}
