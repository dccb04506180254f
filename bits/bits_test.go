package bits_test

import (
	"math"
	"slices"
	"testing"

	"rabbet/bits"
)

func TestWidth(t *testing.T) {
	for _, x := range []struct {
		l    []uint64
		want int
	}{{nil, 0}, {[]uint64{0, 0}, 0}, {[]uint64{1}, 1}, {[]uint64{4, 3}, 3}, {[]uint64{1, math.MaxUint64, 2}, 64}, {[]uint64{255, 256}, 9}} {
		if bits.Width(x.l) != x.want {
			t.Errorf("Width(%v): %d", x.l, bits.Width(x.l))
		}
	}
}

func TestPut(t *testing.T) {
	for _, x := range []struct {
		l    []uint64
		w    int
		want string
	}{
		{[]uint64{1, 2, 3}, 2, "\x39"}, {nil, 0, ""}, {nil, 64, ""}, {[]uint64{0, 0}, 0, ""}, {[]uint64{1, 0, 1}, 1, "\x05"},
		{[]uint64{5, 6, 7}, 3, "\xf5\x01"}, {[]uint64{0x1ff}, 9, "\xff\x01"}, {[]uint64{1, 1 << 63}, 64, "\x01\x00\x00\x00\x00\x00\x00\x00\x00\x00\x00\x00\x00\x00\x00\x80"},
		{[]uint64{0, 0, 0}, 3, "\x00\x00"}, {[]uint64{1, 1<<63 - 1}, 63, "\x01\x00\x00\x00\x00\x00\x00\x80\xff\xff\xff\xff\xff\xff\xff\x3f"},
	} {
		b, ok := bits.Put(x.l, x.w)
		if !ok || string(b) != x.want {
			t.Errorf("Put(%v, %d): %x %v", x.l, x.w, b, ok)
		}
		if l, ok := bits.Take(b, len(x.l), x.w); !ok || !slices.Equal(l, x.l) {
			t.Errorf("Take(%x, %d): %v %v", b, x.w, l, ok)
		}
	}
}

func TestPutOfNone(t *testing.T) {
	for _, x := range []struct {
		l []uint64
		w int
	}{{nil, -1}, {nil, 65}, {[]uint64{1}, 0}, {[]uint64{1, 4}, 2}, {[]uint64{1 << 63}, 63}, {[]uint64{1}, 65}} {
		if b, ok := bits.Put(x.l, x.w); ok || b != nil {
			t.Errorf("Put(%v, %d): %x", x.l, x.w, b)
		}
	}
}

func TestTakeOfNone(t *testing.T) {
	for _, x := range []struct {
		b    string
		n, w int
	}{{"", -1, 1}, {"", 1001, 0}, {"", 0, -1}, {"", 0, 65}, {"\x39", 3, 1}, {"\x79", 3, 2}, {"\x39\x00", 3, 2}, {"", 3, 2}, {"\x00", 0, 2}, {"\x00", 5, 0}, {"\x01", 1, 9}, {"\x00\x02", 1, 9}} {
		if l, ok := bits.Take([]byte(x.b), x.n, x.w); ok || l != nil {
			t.Errorf("Take(%x, %d, %d): %v", x.b, x.n, x.w, l)
		}
	}
	if l, ok := bits.Take(nil, 1000, 0); !ok || len(l) != 1000 {
		t.Error("a thousand of no bits")
	}
}

func TestAllWidths(t *testing.T) {
	for w := range 65 {
		for n := range 20 {
			l := make([]uint64, n)
			for i := range l {
				l[i] = 0x9e3779b97f4a7c15 * uint64(i*64+w+1) & (math.MaxUint64 >> (64 - w))
			}
			b, ok := bits.Put(l, w)
			if !ok || len(b) != (n*w+7)/8 {
				t.Fatalf("%d of %d bits: %d bytes", n, w, len(b))
			}
			if got, ok := bits.Take(b, n, w); !ok || !slices.Equal(got, l) {
				t.Fatalf("%d of %d bits: %v, not %v", n, w, got, l)
			}
		}
	}
}
