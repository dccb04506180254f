package nulls_test

import (
	"slices"
	"testing"

	"rabbet/nulls"
)

func flags(s string) []bool {
	l := []bool{}
	for _, c := range s {
		l = append(l, c == '1')
	}
	return l
}

func TestPutTake(t *testing.T) {
	for _, x := range []struct {
		l, want string
		n       int
	}{{"", "", 0}, {"101", "\x05", 2}, {"0", "\x00", 0}, {"11111111", "\xff", 8}, {"000000001", "\x00\x01", 1}, {"0100000010000000", "\x02\x01", 2}} {
		l := flags(x.l)
		if string(nulls.Put(l)) != x.want {
			t.Errorf("Put of %s: %x", x.l, nulls.Put(l))
		}
		if got, ok := nulls.Take([]byte(x.want), len(l)); !ok || !slices.Equal(got, l) {
			t.Errorf("Take of %x: %v", x.want, got)
		}
		if nulls.Count(l) != x.n {
			t.Errorf("Count of %s: %d", x.l, nulls.Count(l))
		}
	}
}

func TestTakeOfNone(t *testing.T) {
	for _, x := range []struct {
		b string
		n int
	}{{"", -1}, {"", 1}, {"\x00", 0}, {"\x08", 3}, {"\x80", 7}, {"\x00\x00", 8}, {"\x00\x02", 9}, {string(make([]byte, 126)), 1001}} {
		if l, ok := nulls.Take([]byte(x.b), x.n); ok || l != nil {
			t.Errorf("Take(%x, %d): %v", x.b, x.n, l)
		}
	}
	if l, ok := nulls.Take(make([]byte, 125), 1000); !ok || len(l) != 1000 {
		t.Error("a thousand are not taken")
	}
}
