package delta

import (
	"slices"
	"testing"

	"rabbet/api"
	"rabbet/sample"
)

func TestPutTake(t *testing.T) {
	for _, x := range []struct {
		t    int
		l    []api.Value
		want string
	}{
		{api.Int, sample.Ints(5, 6), "\x0a\x02"}, {api.Int, nil, ""}, {api.Small, nil, ""}, {api.Int, sample.Ints(3, 3, 1), "\x06\x00\x03"}, {api.Small, sample.Smalls(32767, -32768), "\xfe\xff\x03\xfd\xff\x07"},
		{api.Int, sample.Ints(1<<63-1, -1<<63, 0), "\xfe\xff\xff\xff\xff\xff\xff\xff\xff\x01\x02\xff\xff\xff\xff\xff\xff\xff\xff\xff\x01"},
	} {
		b, ok := Put(x.t, x.l)
		if !ok || string(b) != x.want {
			t.Errorf("Put of %v: %x %v", x.l, b, ok)
		}
		if l, ok := Take(x.t, len(x.l), b); !ok || !slices.Equal(l, x.l) {
			t.Errorf("Take of %x: %v %v", b, l, ok)
		}
	}
}

func TestPutOfNone(t *testing.T) {
	for i, x := range []struct {
		t int
		l []api.Value
	}{
		{0, nil}, {5, nil}, {-1, nil}, {api.Int, sample.List(sample.Null())}, {api.Int, sample.Smalls(1)}, {api.Small, sample.Smalls(1, 32768)},
		{api.Text, nil}, {api.Bool, nil}, {api.Bool, sample.Bools(1)}, {api.Text, sample.Texts("a")},
	} {
		if b, ok := Put(x.t, x.l); ok || b != nil {
			t.Errorf("%d: %x", i, b)
		}
	}
}

func TestTakeOfNone(t *testing.T) {
	for _, x := range []struct {
		t, n int
		b    string
	}{
		{api.Int, 1, ""}, {api.Int, 0, "\x02"}, {api.Int, 1, "\x02\x02"}, {api.Int, -1, ""}, {api.Int, 1, "\x82\x00"}, {api.Small, 2, "\xfe\xff\x03\x02"}, {api.Bool, 0, ""}, {api.Bool, 1, "\x02"}, {api.Text, 0, ""}, {0, 0, ""}, {5, 0, ""}, {api.Int, 1001, string(make([]byte, 1001))},
	} {
		if l, ok := Take(x.t, x.n, []byte(x.b)); ok || l != nil {
			t.Errorf("Take(%d, %d, %x): %v", x.t, x.n, x.b, l)
		}
	}
	if l, ok := Take(api.Int, 1000, make([]byte, 1000)); !ok || len(l) != 1000 {
		t.Error("a thousand are not taken")
	}
}
