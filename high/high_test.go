package high

import "testing"

func TestPutTake(t *testing.T) {
	for _, x := range []struct {
		v    uint64
		n    int
		want string
	}{{0, 0, ""}, {258, 2, "\x01\x02"}, {258, 1, "\x02"}, {1<<64 - 2, 8, "\xff\xff\xff\xff\xff\xff\xff\xfe"}, {7, 4, "\x00\x00\x00\x07"}} {
		if string(Put(x.v, x.n)) != x.want {
			t.Errorf("Put(%d, %d): %x", x.v, x.n, Put(x.v, x.n))
		}
	}
	if Take([]byte{1, 2}) != 258 || Take(nil) != 0 || Take(Put(1<<64-2, 8)) != 1<<64-2 {
		t.Error("Take")
	}
}
