package part_test

import (
	"hash/fnv"
	"slices"
	"testing"

	"rabbet/api"
	"rabbet/part"
	"rabbet/sample"
)

func of(b string, n int) int {
	h := fnv.New32a()
	h.Write([]byte(b))
	return int(h.Sum32() % uint32(n))
}

func TestOf(t *testing.T) {
	for _, x := range []struct {
		v api.Value
		b string
	}{
		{sample.Null(), "\x00"}, {sample.Int(258), "\x01\x00\x00\x00\x00\x00\x00\x01\x02"}, {sample.Small(-1), "\x01\xff\xff\xff\xff\xff\xff\xff\xff"}, {sample.Bool(1), "\x01\x00\x00\x00\x00\x00\x00\x00\x01"},
		{sample.Text(""), "\x02"}, {sample.Text("ab"), "\x02ab"}, {api.Value{Type: 9, I: 7, S: "a"}, "\x01\x00\x00\x00\x00\x00\x00\x00\x07"}, {api.Value{Type: -1, I: 7}, "\x01\x00\x00\x00\x00\x00\x00\x00\x07"},
	} {
		for _, n := range []int{2, 3, 4, 7, 1000003} {
			if part.Of(x.v, n) != of(x.b, n) {
				t.Errorf("Of(%v, %d): %d", x.v, n, part.Of(x.v, n))
			}
		}
		for _, n := range []int{1, 0, -1, -1 << 63} {
			if part.Of(x.v, n) != 0 {
				t.Errorf("Of(%v, %d): %d", x.v, n, part.Of(x.v, n))
			}
		}
	}
	if part.Of(sample.Text("a"), 1<<40) != of("\x02a", 1<<32-1) {
		t.Error("of very many parts")
	}
}

func TestApart(t *testing.T) {
	cols := [][]api.Value{sample.Ints(1, 2, 3, 4, 5, 6, 7, 8), sample.Texts("a", "b", "a", "c", "d", "a", "e", "f")}
	for _, n := range []int{2, 3, 4, 5, 100} {
		got := part.Apart(cols, 1, n)
		if len(got) != min(n, api.MaxParts) {
			t.Fatalf("%d parts of %d", len(got), n)
		}
		all := 0
		for p, places := range got {
			all += len(places)
			for k, i := range places {
				if part.Of(cols[1][i], len(got)) != p || k > 0 && places[k-1] >= i {
					t.Errorf("%d parts: %v", n, got)
				}
			}
		}
		if all != 8 {
			t.Errorf("%d parts: each row is in one: %v", n, got)
		}
	}
}

func TestApartByTheFirst(t *testing.T) {
	got := part.Apart([][]api.Value{sample.Texts("a", "b", "c", "d", "e", "f")}, 0, 2)
	if len(got) != 2 || len(got[0]) == 0 || len(got[1]) == 0 {
		t.Errorf("%v", got)
	}
}

func TestNotApart(t *testing.T) {
	cols := [][]api.Value{sample.Ints(1, 2, 3), sample.Ints(1, 2, 3, 4)}
	for _, x := range []struct{ at, n int }{{0, 1}, {0, 0}, {0, -3}, {2, 4}, {-1, 4}} {
		got := part.Apart(cols, x.at, x.n)
		if len(got) != 1 || !slices.Equal(got[0], []int{0, 1, 2}) {
			t.Errorf("Apart(%d, %d): %v", x.at, x.n, got)
		}
	}
	if got := part.Apart(nil, 0, 4); len(got) != 1 || len(got[0]) != 0 {
		t.Errorf("of no columns: %v", got)
	}
}
