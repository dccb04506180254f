package rle

import (
	"slices"
	"strings"
	"testing"

	"rabbet/api"
	"rabbet/sample"
)

func TestPutTake(t *testing.T) {
	for _, x := range []struct {
		t    int
		l    []api.Value
		want string
	}{
		{api.Int, sample.Ints(1, 1, 1), "\x03\x02"}, {api.Int, nil, ""}, {api.Text, sample.Texts("a", "a", "b", "a"), "\x02\x01a\x01\x01b\x01\x01a"},
		{api.Bool, sample.Bools(0, 0, 1), "\x02\x00\x01\x01"}, {api.Small, sample.Smalls(-1, -1), "\x02\x01"}, {api.Int, slices.Repeat(sample.Ints(0), 300), "\xac\x02\x00"},
	} {
		b, ok := Put(x.t, x.l)
		if !ok || string(b) != x.want {
			t.Errorf("Put of %v: %x %v", x.l, b, ok)
		}
		if l, ok := Take(x.t, len(x.l), b); !ok || !slices.Equal(l, x.l) {
			t.Errorf("Take of %x: %v %v", b, l, ok)
		}
	}
}

func TestPutOfNone(t *testing.T) {
	for i, x := range []struct {
		t int
		l []api.Value
	}{
		{0, nil}, {5, nil}, {-1, nil}, {api.Int, sample.List(sample.Null())}, {api.Int, sample.Smalls(1)}, {api.Small, sample.Smalls(1, 32768)},
		{api.Bool, sample.Bools(2)}, {api.Text, sample.Texts("a", strings.Repeat("a", 21))},
	} {
		if b, ok := Put(x.t, x.l); ok || b != nil {
			t.Errorf("%d: %x", i, b)
		}
	}
}

func TestTakeOfNone(t *testing.T) {
	for _, x := range []struct {
		t, n int
		b    string
	}{
		{api.Int, 2, "\x03\x02"}, {api.Int, 4, "\x03\x02"}, {api.Int, 2, "\x01\x02\x01\x02"}, {api.Int, 1, "\x01\x02\x00\x04"}, {api.Int, 0, "\x00\x02"}, {api.Int, 1, ""}, {api.Int, -1, ""}, {api.Int, 1, "\x81\x00\x02"},
		{api.Int, 1, "\x01"}, {api.Int, 1, "\x01\x82\x00"}, {0, 0, ""}, {5, 0, ""}, {api.Bool, 1, "\x01\x02"}, {api.Small, 1, "\x01\x80\x80\x04"}, {api.Text, 1, "\x01\x02a"}, {api.Int, 1001, "\xe9\x07\x00"},
		{api.Int, 5, "\xff\xff\xff\xff\xff\xff\xff\xff\xff\x01\x00"},
	} {
		if l, ok := Take(x.t, x.n, []byte(x.b)); ok || l != nil {
			t.Errorf("Take(%d, %d, %x): %v", x.t, x.n, x.b, l)
		}
	}
	if l, ok := Take(api.Int, 1000, []byte("\xe8\x07\x00")); !ok || len(l) != 1000 {
		t.Error("a thousand are not taken")
	}
}
