package num_test

import (
	"math"
	"testing"

	"rabbet/num"
)

var numbers = []struct {
	v    uint64
	want string
}{
	{0, "\x00"}, {1, "\x01"}, {127, "\x7f"}, {128, "\x80\x01"}, {300, "\xac\x02"}, {16383, "\xff\x7f"}, {16384, "\x80\x80\x01"},
	{1 << 63, "\x80\x80\x80\x80\x80\x80\x80\x80\x80\x01"}, {1<<63 - 1, "\xff\xff\xff\xff\xff\xff\xff\xff\x7f"}, {math.MaxUint64, "\xff\xff\xff\xff\xff\xff\xff\xff\xff\x01"},
}

func TestPutTake(t *testing.T) {
	for _, x := range numbers {
		if string(num.Put(x.v)) != x.want {
			t.Errorf("Put(%d): %x", x.v, num.Put(x.v))
		}
		for _, tail := range []string{"", "\x00", "\xff\xff"} {
			if v, n, ok := num.Take([]byte(x.want + tail)); v != x.v || n != len(x.want) || !ok {
				t.Errorf("Take of %x: %d %d %v", x.want+tail, v, n, ok)
			}
		}
		for k := range x.want {
			if v, n, ok := num.Take([]byte(x.want[:k])); v != 0 || n != 0 || ok {
				t.Errorf("%d is taken from its first %d bytes", x.v, k)
			}
		}
	}
}

func TestTakeOfNone(t *testing.T) {
	for _, s := range []string{"", "\x80", "\x80\x00", "\xff\x00", "\x80\x80\x00", "\xff\xff\xff\xff\xff\xff\xff\xff\xff\x02", "\xff\xff\xff\xff\xff\xff\xff\xff\xff\x81\x00", "\x80\x80\x80\x80\x80\x80\x80\x80\x80\x00", "\xff\xff\xff\xff\xff\xff\xff\xff\xff\xff\x01"} {
		if v, n, ok := num.Take([]byte(s)); v != 0 || n != 0 || ok {
			t.Errorf("%x: %d %d", s, v, n)
		}
	}
}

func TestZigZag(t *testing.T) {
	for _, x := range []struct {
		v int64
		u uint64
	}{{0, 0}, {-1, 1}, {1, 2}, {-2, 3}, {2, 4}, {math.MaxInt64, math.MaxUint64 - 1}, {math.MinInt64, math.MaxUint64}} {
		if num.Zig(x.v) != x.u || num.Zag(x.u) != x.v {
			t.Errorf("%d: %d, back %d", x.v, num.Zig(x.v), num.Zag(x.u))
		}
	}
}
