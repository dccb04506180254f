package pack

import (
	"slices"
	"testing"

	"rabbet/api"
	"rabbet/sample"
)

func TestPutTake(t *testing.T) {
	for _, x := range []struct {
		t    int
		l    []api.Value
		want string
	}{
		{api.Int, sample.Ints(5, 6), "\x0a\x01\x02"}, {api.Int, nil, ""}, {api.Int, sample.Ints(-3, -3), "\x05\x00"}, {api.Bool, sample.Bools(1, 0, 1), "\x00\x01\x05"}, {api.Small, sample.Smalls(-2, 1, 0), "\x03\x02\x2c"},
		{api.Int, sample.Ints(-1<<63, 1<<63-1), "\xff\xff\xff\xff\xff\xff\xff\xff\xff\x01\x40\x00\x00\x00\x00\x00\x00\x00\x00\xff\xff\xff\xff\xff\xff\xff\xff"},
	} {
		b, ok := Put(x.t, x.l)
		if !ok || string(b) != x.want {
			t.Errorf("Put of %v: %x %v", x.l, b, ok)
		}
		if l, ok := Take(x.t, len(x.l), b); !ok || !slices.Equal(l, x.l) {
			t.Errorf("Take of %x: %v %v", b, l, ok)
		}
	}
}

func TestPutOfNone(t *testing.T) {
	for i, x := range []struct {
		t int
		l []api.Value
	}{
		{0, nil}, {5, nil}, {-1, nil}, {api.Int, sample.List(sample.Null())}, {api.Int, sample.Smalls(1)}, {api.Small, sample.Smalls(1, 32768)},
		{api.Text, nil}, {api.Text, sample.Texts("a")}, {api.Bool, sample.Bools(2)},
	} {
		if b, ok := Put(x.t, x.l); ok || b != nil {
			t.Errorf("%d: %x", i, b)
		}
	}
}

func TestTakeOfNone(t *testing.T) {
	for _, x := range []struct {
		t, n int
		b    string
	}{
		{api.Int, 0, "\x0a\x00"}, {api.Int, 1, ""}, {api.Int, 1, "\x0a"}, {api.Int, 1, "\x0a\x01\x00"}, {api.Int, 2, "\x08\x02\x09"}, {api.Int, 2, "\x0a\x02\x04"}, {api.Int, 2, "\x0a\x01\x06"}, {api.Int, 2, "\x0a\x01\x02\x00"}, {api.Int, -1, ""},
		{api.Int, 2, "\x0a\x41\x02"}, {api.Int, 2, "\x8a\x00\x01\x02"}, {api.Small, 2, "\xfe\xff\x03\x01\x02"}, {api.Bool, 2, "\x00\x02\x08"}, {api.Text, 0, ""}, {0, 0, ""}, {5, 0, ""}, {api.Int, 1001, "\x00\x00"},
		{api.Int, 2, "\xfe\xff\xff\xff\xff\xff\xff\xff\xff\x01\x01\x02"},
	} {
		if l, ok := Take(x.t, x.n, []byte(x.b)); ok || l != nil {
			t.Errorf("Take(%d, %d, %x): %v", x.t, x.n, x.b, l)
		}
	}
	if l, ok := Take(api.Int, 1000, []byte("\x00\x00")); !ok || len(l) != 1000 {
		t.Error("a thousand are not taken")
	}
}
