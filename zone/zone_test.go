package zone_test

import (
	"math/rand"
	"strings"
	"testing"

	"rabbet/api"
	"rabbet/sample"
	"rabbet/value"
	"rabbet/zone"
)

func TestOf(t *testing.T) {
	null := sample.Null()
	for i, x := range []struct {
		l    []api.Value
		want api.Zone
	}{
		{nil, api.Zone{}},
		{sample.List(null, null), api.Zone{Nulls: 2}},
		{sample.Ints(3), api.Zone{Min: sample.Int(3), Max: sample.Int(3)}},
		{sample.List(sample.Int(3), null, sample.Int(-1), sample.Int(9), sample.Int(2)), api.Zone{Nulls: 1, Min: sample.Int(-1), Max: sample.Int(9)}},
		{sample.Texts("b", "", "c"), api.Zone{Min: sample.Text(""), Max: sample.Text("c")}},
		{sample.List(sample.Int(1), sample.Bool(1), sample.Small(1)), api.Zone{Min: sample.Int(1), Max: sample.Int(1)}},
		{sample.List(sample.Bool(1), sample.Text("a"), sample.Int(1)), api.Zone{Min: sample.Bool(1), Max: sample.Text("a")}},
	} {
		if zone.Of(x.l) != x.want {
			t.Errorf("%d: %v", i, zone.Of(x.l))
		}
	}
}

func TestCan(t *testing.T) {
	z := api.Zone{Nulls: 1, Min: sample.Int(3), Max: sample.Int(5)}
	one := api.Zone{Min: sample.Int(3), Max: sample.Int(3)}
	for _, x := range []struct {
		z     api.Zone
		n, op int
		want  string // of 2, 3, 4, 5, 6
	}{
		{z, 4, api.Equal, "01110"}, {z, 4, api.Unequal, "11111"}, {z, 4, api.Less, "00111"}, {z, 4, api.Most, "01111"}, {z, 4, api.More, "11100"}, {z, 4, api.Least, "11110"},
		{z, 4, api.Null, "11111"}, {z, 4, api.NotNull, "11111"}, {z, 1, api.NotNull, "00000"}, {z, 4, 0, "00000"}, {z, 4, 9, "00000"},
		{one, 4, api.Equal, "01000"}, {one, 4, api.Unequal, "10111"}, {one, 4, api.Null, "00000"},
		{api.Zone{Nulls: 4}, 4, api.Equal, "00000"}, {api.Zone{Nulls: 4}, 4, api.Unequal, "00000"}, {api.Zone{Nulls: 4}, 4, api.Less, "00000"}, {api.Zone{Nulls: 4}, 4, api.Least, "00000"}, {api.Zone{Nulls: 4}, 4, api.NotNull, "00000"}, {api.Zone{Nulls: 4}, 4, api.Null, "11111"},
	} {
		for i, w := range x.want {
			if zone.Can(x.z, x.n, x.op, sample.Int(int64(2+i))) != (w == '1') {
				t.Errorf("%v: op %d of %d", x.z, x.op, 2+i)
			}
		}
		if null := x.op == api.Null || x.op == api.NotNull; zone.Can(x.z, x.n, x.op, sample.Null()) != (null && x.want[0] == '1') {
			t.Errorf("%v: op %d of nothing", x.z, x.op)
		}
	}
}

// TestNoRowIsPassedOver: a value that passes a test lies in a zone that can.
func TestNoRowIsPassedOver(t *testing.T) {
	r := rand.New(rand.NewSource(4))
	passes := func(op, c int) bool {
		return []bool{c == 0, c != 0, c < 0, c <= 0, c > 0, c >= 0}[op-api.Equal]
	}
	for range 5000 {
		var l []api.Value
		for range 1 + r.Intn(3) {
			l = append(l, sample.Int(int64(r.Intn(5))))
		}
		v, op := sample.Int(int64(r.Intn(5))), api.Equal+r.Intn(6)
		for _, x := range l {
			if passes(op, value.Compare(x, v)) && !zone.Can(zone.Of(l), len(l), op, v) {
				t.Fatalf("%v: op %d of %v", l, op, v)
			}
		}
	}
}

func TestSame(t *testing.T) {
	z := api.Zone{Nulls: 1, Min: sample.Int(3), Max: sample.Int(5)}
	for i, o := range []api.Zone{{Nulls: 2, Min: z.Min, Max: z.Max}, {Nulls: 1, Min: sample.Small(3), Max: z.Max}, {Nulls: 1, Min: z.Min, Max: sample.Int(6)}, {}} {
		if zone.Same(z, o) || !zone.Same(o, o) {
			t.Errorf("%d", i)
		}
	}
}

func TestPutTake(t *testing.T) {
	for _, x := range []struct {
		z    api.Zone
		want string
	}{
		{api.Zone{}, "\x00\x00\x00"}, {api.Zone{Nulls: 300}, "\xac\x02\x00\x00"}, {api.Zone{Nulls: 1, Min: sample.Small(-1), Max: sample.Text("b")}, "\x01\x01\xff\xff\x04\x01b"}, {api.Zone{Nulls: 1<<63 - 1}, "\xff\xff\xff\xff\xff\xff\xff\xff\x7f\x00\x00"},
	} {
		if string(zone.Put(x.z)) != x.want {
			t.Errorf("Put(%v): %x", x.z, zone.Put(x.z))
		}
		for _, tail := range []string{"", "\x00", "zz"} {
			if z, n, ok := zone.Take([]byte(x.want + tail)); z != x.z || n != len(x.want) || !ok {
				t.Errorf("Take of %x: %v", x.want+tail, z)
			}
		}
		for k := range x.want {
			if z, n, ok := zone.Take([]byte(x.want[:k])); z != (api.Zone{}) || n != 0 || ok {
				t.Errorf("Take of %x: %v", x.want[:k], z)
			}
		}
	}
}

func TestOfNone(t *testing.T) {
	for _, z := range []api.Zone{{Nulls: -1}, {Min: api.Value{I: 1}}, {Max: api.Value{Type: 7}}, {Min: sample.Text(strings.Repeat("a", 21))}} {
		if zone.Put(z) != nil {
			t.Errorf("%v is put", z)
		}
	}
	for _, s := range []string{"", "\x80\x00\x00\x00", "\x00\x05\x00", "\x00\x00\x03\x02", "\x80\x80\x80\x80\x80\x80\x80\x80\x80\x01\x00\x00"} {
		if z, n, ok := zone.Take([]byte(s)); z != (api.Zone{}) || n != 0 || ok {
			t.Errorf("%x: %v", s, z)
		}
	}
}
