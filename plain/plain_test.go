package plain

import (
	"slices"
	"strings"
	"testing"

	"rabbet/api"
	"rabbet/sample"
)

func TestPutTake(t *testing.T) {
	for _, x := range []struct {
		t    int
		l    []api.Value
		want string
	}{
		{api.Int, sample.Ints(1), "\x02"}, {api.Int, nil, ""}, {api.Text, nil, ""}, {api.Int, sample.Ints(-1, 150, -1<<63), "\x01\xac\x02\xff\xff\xff\xff\xff\xff\xff\xff\xff\x01"},
		{api.Small, sample.Smalls(32767, -32768, 0), "\xfe\xff\x03\xff\xff\x03\x00"}, {api.Bool, sample.Bools(1, 0), "\x01\x00"}, {api.Text, sample.Texts("ab", "", "c"), "\x02ab\x00\x01c"},
	} {
		b, ok := Put(x.t, x.l)
		if !ok || string(b) != x.want {
			t.Errorf("Put of %v: %x %v", x.l, b, ok)
		}
		if l, ok := Take(x.t, len(x.l), b); !ok || !slices.Equal(l, x.l) {
			t.Errorf("Take of %x: %v %v", b, l, ok)
		}
	}
}

func TestPutOfNone(t *testing.T) {
	for i, x := range []struct {
		t int
		l []api.Value
	}{{0, nil}, {5, nil}, {-1, nil}, {api.Int, sample.List(sample.Null())}, {api.Int, sample.Smalls(1)}, {api.Bool, sample.Bools(2)}, {api.Text, sample.Texts("a", strings.Repeat("a", 21))}} {
		if b, ok := Put(x.t, x.l); ok || b != nil {
			t.Errorf("%d: %x", i, b)
		}
	}
}

func TestTakeOfNone(t *testing.T) {
	for _, x := range []struct {
		t, n int
		b    string
	}{
		{api.Int, 2, "\x02"}, {api.Int, 1, "\x02\x02"}, {api.Int, 0, "\x02"}, {api.Int, 1, ""}, {api.Int, -1, ""}, {api.Int, 1, "\x82\x00"}, {0, 0, ""}, {5, 0, ""}, {5, 1, "\x00"},
		{api.Small, 1, "\x80\x80\x04"}, {api.Bool, 1, "\x02"}, {api.Text, 1, "\x02a"}, {api.Text, 1, "\x15" + strings.Repeat("a", 21)}, {api.Bool, 1001, strings.Repeat("\x00", 1001)},
	} {
		if l, ok := Take(x.t, x.n, []byte(x.b)); ok || l != nil {
			t.Errorf("Take(%d, %d, %x): %v", x.t, x.n, x.b, l)
		}
	}
	if l, ok := Take(api.Bool, 1000, make([]byte, 1000)); !ok || len(l) != 1000 {
		t.Error("a thousand are not taken")
	}
}
