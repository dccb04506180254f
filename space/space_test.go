package space_test

import (
	"math/rand"
	"testing"

	"rabbet/api"
	"rabbet/space"
)

func ext(at, n int) api.Extent { return api.Extent{At: at, N: n} }

func TestNew(t *testing.T) {
	for _, x := range []struct{ from, n, first, most int }{{10, 4, 10, 4}, {-3, 4, 0, 4}, {5, -1, 0, 0}, {5, 0, 0, 0}, {0, 4000, 0, 4000}, {7, 4001, 7, 4000}, {7, 1 << 60, 7, 4000}} {
		s := space.New(x.from, x.n)
		if s.Used() != 0 {
			t.Errorf("New(%d, %d): %d taken", x.from, x.n, s.Used())
		}
		e, ok := s.Take(x.most)
		if ok != (x.most > 0) || ok && e != ext(x.first, x.most) || s.Used() != x.most {
			t.Errorf("New(%d, %d): %v %v", x.from, x.n, e, ok)
		}
		if e, ok := s.Take(1); ok || e != (api.Extent{}) {
			t.Errorf("New(%d, %d): one more", x.from, x.n)
		}
	}
}

func TestTake(t *testing.T) {
	s := space.New(10, 10)
	s.Mark(ext(12, 1))
	s.Mark(ext(16, 1))
	for _, x := range []struct {
		k    int
		want api.Extent
	}{{3, ext(13, 3)}, {1, ext(10, 1)}, {4, api.Extent{}}, {0, api.Extent{}}, {-1, api.Extent{}}, {1 << 62, api.Extent{}}, {3, ext(17, 3)}, {2, api.Extent{}}, {1, ext(11, 1)}, {1, api.Extent{}}} {
		if e, ok := s.Take(x.k); e != x.want || ok != (x.want.N > 0) {
			t.Errorf("Take(%d): %v %v", x.k, e, ok)
		}
	}
	if s.Used() != 10 {
		t.Errorf("%d taken", s.Used())
	}
}

func TestMarkFree(t *testing.T) {
	s := space.New(10, 4)
	for i, x := range []struct {
		free bool
		e    api.Extent
		want bool
		used int
	}{
		{false, ext(11, 2), true, 2}, {false, ext(12, 1), false, 2}, {false, ext(12, 2), false, 2}, {false, ext(10, 2), false, 2}, {false, ext(13, 1), true, 3}, {false, ext(13, 2), false, 3}, {false, ext(9, 1), false, 3}, {false, ext(14, 1), false, 3}, {false, ext(10, 0), false, 3}, {false, ext(10, -1), false, 3}, {false, ext(-1<<63, 1), false, 3}, {false, ext(1<<62, 1<<62), false, 3}, {false, ext(10, 1<<63-1), false, 3},
		{true, ext(10, 2), false, 3}, {true, ext(10, 1), false, 3}, {true, ext(12, 3), false, 3}, {true, ext(9, 3), false, 3}, {true, ext(12, 0), false, 3}, {true, ext(12, -1), false, 3}, {true, ext(12, 2), true, 1}, {true, ext(11, 2), false, 1}, {true, ext(11, 1), true, 0}, {true, ext(11, 1), false, 0},
		{false, ext(10, 4), true, 4}, {true, ext(10, 4), true, 0},
	} {
		got := false
		if x.free {
			got = s.Free(x.e)
		} else {
			got = s.Mark(x.e)
		}
		if got != x.want || s.Used() != x.used {
			t.Errorf("%d: %v: %v, %d taken", i, x.e, got, s.Used())
		}
	}
}

func TestWhatIsTakenDoesNotMeet(t *testing.T) {
	r := rand.New(rand.NewSource(7))
	s := space.New(3, 40)
	var held []api.Extent
	owner := map[int]bool{}
	for range 5000 {
		if len(held) > 0 && r.Intn(2) == 0 {
			i := r.Intn(len(held))
			if !s.Free(held[i]) {
				t.Fatal("it is not freed")
			}
			for b := range held[i].N {
				delete(owner, held[i].At+b)
			}
			held = append(held[:i], held[i+1:]...)
		}
		e, ok := s.Take(1 + r.Intn(6))
		if !ok {
			continue
		}
		held = append(held, e)
		for b := range e.N {
			if owner[e.At+b] || e.At+b < 3 || e.At+b >= 43 {
				t.Fatalf("block %d is taken twice, or none", e.At+b)
			}
			owner[e.At+b] = true
		}
		if s.Used() != len(owner) {
			t.Fatalf("%d are taken, not %d", s.Used(), len(owner))
		}
	}
}

func TestCopy(t *testing.T) {
	s := space.New(0, 4)
	s.Take(1)
	c := s.Copy()
	c.Take(2)
	if s.Used() != 1 || c.Used() != 3 {
		t.Error("a copy is another one")
	}
	if e, _ := s.Take(1); e != ext(1, 1) {
		t.Error("what the copy took")
	}
}

func TestNil(t *testing.T) {
	var s *space.Space
	if e, ok := s.Take(1); ok || e != (api.Extent{}) || s.Mark(ext(0, 1)) || s.Free(ext(0, 1)) || s.Used() != 0 || s.Copy() != nil {
		t.Error("of a nil Space")
	}
}
