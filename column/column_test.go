package column_test

import (
	"math/rand"
	"slices"
	"testing"

	"rabbet/api"
	"rabbet/column"
	"rabbet/sample"
)

func TestUsed(t *testing.T) {
	want := map[[2]int]int{}
	for enc := api.Plain; enc <= api.Dict; enc++ {
		for ty := api.Small; ty <= api.Text; ty++ {
			want[[2]int{enc, ty}] = enc
		}
	}
	for i, used := range []int{api.Pack, api.Pack, api.Pack, api.Dict, api.Delta, api.Delta, api.Pack, api.Dict} {
		want[[2]int{api.Pack + i/4, api.Small + i%4}] = used
	}
	for enc := -1; enc < 8; enc++ {
		for ty := -1; ty < 7; ty++ {
			w, has := want[[2]int{enc, ty}]
			if used, ok := column.Used(enc, ty); used != w || ok != has {
				t.Errorf("Used(%d, %d): %d %v", enc, ty, used, ok)
			}
		}
	}
}

func TestPutTake(t *testing.T) {
	null := sample.Null()
	for _, x := range []struct {
		enc, t int
		l      []api.Value
		want   string
	}{
		{api.Plain, api.Int, sample.Ints(1), "\x01\x00\x02"}, {api.Plain, api.Int, nil, "\x01\x00"}, {api.Dict, api.Text, nil, "\x03\x00\x00"},
		{api.Plain, api.Int, sample.List(null, sample.Int(1), null), "\x01\x01\x05\x02"}, {api.RLE, api.Bool, sample.List(sample.Bool(1), null, sample.Bool(1)), "\x02\x01\x02\x02\x01"},
		{api.Pack, api.Int, sample.List(null, sample.Int(5), sample.Int(6)), "\x04\x01\x01\x0a\x01\x02"}, {api.Delta, api.Small, sample.Smalls(5, 6), "\x05\x00\x0a\x02"},
		{api.Delta, api.Bool, sample.Bools(1, 0, 1), "\x04\x00\x00\x01\x05"}, {api.Delta, api.Text, sample.Texts("a"), "\x03\x00\x01\x01a"}, {api.Pack, api.Text, sample.Texts("a"), "\x03\x00\x01\x01a"},
		{api.Pack, api.Small, sample.List(null, null), "\x04\x01\x03"}, {api.Plain, api.Text, slices.Repeat(sample.List(null), 9), "\x01\x01\xff\x01"},
	} {
		b, ok := column.Put(x.enc, x.t, x.l)
		if !ok || string(b) != x.want {
			t.Errorf("Put(%d, %d, %v): %x %v", x.enc, x.t, x.l, b, ok)
		}
		used, _ := column.Used(x.enc, x.t)
		if l, enc, ok := column.Take(x.t, len(x.l), b); !ok || enc != used || !slices.Equal(l, x.l) {
			t.Errorf("Take of %x: %v %d %v", b, l, enc, ok)
		}
	}
}

func TestPutOfNone(t *testing.T) {
	for i, x := range []struct {
		enc, t int
		l      []api.Value
	}{{0, api.Int, nil}, {6, api.Int, nil}, {api.Plain, 0, nil}, {api.Plain, 5, nil}, {api.Plain, api.Int, sample.Smalls(1)}, {api.Delta, api.Text, sample.Ints(1)}, {api.Plain, api.Small, sample.Smalls(1, 40000)}, {api.Plain, api.Int, sample.List(api.Value{I: 1})}} {
		if b, ok := column.Put(x.enc, x.t, x.l); ok || b != nil {
			t.Errorf("%d: %x", i, b)
		}
	}
}

func TestTakeOfNone(t *testing.T) {
	for _, x := range []struct {
		t, n int
		b    string
	}{
		{api.Int, 0, ""}, {api.Int, 0, "\x01"}, {api.Int, 1, "\x01\x00"}, {api.Int, 1, "\x01\x02\x02"}, {api.Int, 1, "\x01\x01\x00\x02"}, {api.Int, 1, "\x01\x01"}, {api.Int, 1, "\x01\x01\x03"}, {api.Int, 1, "\x01\x01\x01\x02"},
		{api.Int, 0, "\x01\x01"}, {api.Int, 1, "\x00\x00\x02"}, {api.Int, 1, "\x06\x00\x02"}, {api.Bool, 1, "\x05\x00\x02"}, {api.Text, 1, "\x04\x00\x02\x00"}, {api.Int, -1, "\x01\x00"}, {api.Int, 1001, "\x02\x00\xe9\x07\x00"}, {0, 0, "\x01\x00"}, {5, 0, "\x01\x00"},
		{api.Int, 9, "\x01\x01\xff"}, {api.Int, 1, "\x01\x00\x02\x02"},
	} {
		if l, enc, ok := column.Take(x.t, x.n, []byte(x.b)); ok || l != nil || enc != 0 {
			t.Errorf("Take(%d, %d, %x): %v", x.t, x.n, x.b, l)
		}
	}
	if l, _, ok := column.Take(api.Int, 1000, []byte("\x02\x00\xe8\x07\x00")); !ok || len(l) != 1000 {
		t.Error("a thousand are not taken")
	}
}

func TestHoweverWished(t *testing.T) {
	r := rand.New(rand.NewSource(3))
	for range 5000 {
		enc, ty := 1+r.Intn(5), 1+r.Intn(4)
		l := make([]api.Value, r.Intn(20))
		for i := range l {
			if r.Intn(4) > 0 {
				l[i].Type = ty
				if ty == api.Text {
					l[i].S = []string{"a", "b", ""}[r.Intn(3)]
				} else {
					l[i].I = int64(r.Intn(2))
				}
			}
		}
		b, ok := column.Put(enc, ty, l)
		used, _ := column.Used(enc, ty)
		if got, e, takes := column.Take(ty, len(l), b); !ok || !takes || e != used || !slices.Equal(got, l) {
			t.Fatalf("Put(%d, %d, %v): %x, taken as %v", enc, ty, l, b, got)
		}
		if len(b) > 2 {
			b[r.Intn(len(b))] ^= byte(1 << r.Intn(8))
			if got, e, ok := column.Take(ty, len(l), b); ok {
				if again, _ := column.Put(e, ty, got); string(again) != string(b) {
					t.Fatalf("%x is taken as %v, which is put as %x", b, got, again)
				}
			}
		}
	}
}
