package seg_test

import (
	"math/rand"
	"reflect"
	"slices"
	"testing"

	"rabbet/api"
	"rabbet/sample"
	"rabbet/seg"
)

func two() (types, enc []int, cols [][]api.Value) {
	return []int{api.Int, api.Text}, []int{api.Delta, api.Delta}, [][]api.Value{sample.Ints(1, 2), sample.List(sample.Null(), sample.Text("a"))}
}

const twoBytes = "SG\x00\x03\x01\x01\x02\x02" +
	"\x02" + "\x00\x02\x00\x00\x00\x00\x00\x00\x00\x01\x02\x00\x00\x00\x00\x00\x00\x00\x02" + "\x00\x04" + "\x05\x00\x02\x02" +
	"\x04" + "\x01\x04\x01a\x04\x01a" + "\x00\x06" + "\x03\x01\x01\x01\x01a"

func made(t *testing.T) api.Segment {
	types, enc, cols := two()
	s, ok := seg.Make(3, 1, 1, types, enc, cols)
	if !ok {
		t.Fatal("it is not made")
	}
	return s
}

func TestMake(t *testing.T) {
	s := made(t)
	_, _, cols := two()
	want := api.Segment{Version: 3, Part: 1, SortBy: 1, Types: []int{api.Int, api.Text}, Enc: []int{api.Delta, api.Dict}, Cols: cols,
		Zones: []api.Zone{{Min: sample.Int(1), Max: sample.Int(2)}, {Nulls: 1, Min: sample.Text("a"), Max: sample.Text("a")}}}
	if !reflect.DeepEqual(s, want) || !seg.May(s) || seg.Rows(s) != 2 {
		t.Errorf("%v", s)
	}
	if string(seg.Put(s)) != twoBytes {
		t.Errorf("Put: %x", seg.Put(s))
	}
	if got, ok := seg.Take([]byte(twoBytes)); !ok || !reflect.DeepEqual(got, want) {
		t.Errorf("Take: %v %v", got, ok)
	}
	one, ok := seg.Make(0, 0, 0, []int{api.Bool}, []int{api.Plain}, [][]api.Value{sample.Bools(1)})
	if got, ok2 := seg.Take(seg.Put(one)); !ok || !ok2 || !reflect.DeepEqual(got, one) {
		t.Errorf("of one row: %v", got)
	}
}

func TestMakeIsNewMemory(t *testing.T) {
	types, enc, cols := two()
	s, _ := seg.Make(3, 1, 1, types, enc, cols)
	types[0], enc[0], cols[0][0] = 9, 9, sample.Null()
	if !seg.May(s) {
		t.Error("memory is shared")
	}
}

func TestMakeOfNone(t *testing.T) {
	long := make([]api.Value, 17)
	for i, x := range []struct {
		version, part, sortBy int
		types, enc            []int
		cols                  [][]api.Value
	}{
		{-1, 0, 0, []int{1}, []int{1}, [][]api.Value{long[:1]}}, {201, 0, 0, []int{1}, []int{1}, [][]api.Value{long[:1]}}, {0, -1, 0, []int{1}, []int{1}, [][]api.Value{long[:1]}}, {0, 4, 0, []int{1}, []int{1}, [][]api.Value{long[:1]}},
		{0, 0, -1, []int{1}, []int{1}, [][]api.Value{long[:1]}}, {0, 0, 2, []int{1}, []int{1}, [][]api.Value{long[:1]}}, {0, 0, 1, []int{2}, []int{1}, [][]api.Value{sample.Ints(2, 1)}},
		{0, 0, 0, nil, nil, nil}, {0, 0, 0, []int{1}, []int{1}, [][]api.Value{nil}}, {0, 0, 0, []int{1}, []int{1}, [][]api.Value{long}}, {0, 0, 0, []int{1, 1}, []int{1, 1}, [][]api.Value{long[:1], long[:2]}},
		{0, 0, 0, []int{1, 1}, []int{1}, [][]api.Value{long[:1]}}, {0, 0, 0, []int{1}, []int{1, 1}, [][]api.Value{long[:1]}}, {0, 0, 0, []int{1}, nil, [][]api.Value{long[:1]}}, {0, 0, 0, nil, []int{1}, [][]api.Value{long[:1]}},
		{0, 0, 0, []int{0}, []int{1}, [][]api.Value{long[:1]}}, {0, 0, 0, []int{1}, []int{6}, [][]api.Value{long[:1]}}, {0, 0, 0, []int{1}, []int{1}, [][]api.Value{sample.Ints(1)}},
		{0, 0, 0, slices.Repeat([]int{1}, 7), slices.Repeat([]int{1}, 7), slices.Repeat([][]api.Value{long[:1]}, 7)},
	} {
		if s, ok := seg.Make(x.version, x.part, x.sortBy, x.types, x.enc, x.cols); ok || !reflect.DeepEqual(s, api.Segment{}) {
			t.Errorf("%d: %v", i, s)
		}
	}
	if _, ok := seg.Make(200, 3, 1, slices.Repeat([]int{1}, 6), slices.Repeat([]int{5}, 6), slices.Repeat([][]api.Value{long[:16]}, 6)); !ok {
		t.Error("as great as may be")
	}
}

func TestMayNot(t *testing.T) {
	for i, turn := range []func(s *api.Segment){
		func(s *api.Segment) { s.Version = -1 }, func(s *api.Segment) { s.Version = 201 }, func(s *api.Segment) { s.Part = 4 }, func(s *api.Segment) { s.Part = -1 },
		func(s *api.Segment) { s.SortBy = 3 }, func(s *api.Segment) { s.SortBy = -1 }, func(s *api.Segment) { s.Cols = s.Cols[:1] }, func(s *api.Segment) { s.Types = s.Types[:1] },
		func(s *api.Segment) { s.Enc = append(s.Enc, 1) }, func(s *api.Segment) { s.Zones = nil }, func(s *api.Segment) { s.Enc[1] = api.Delta }, func(s *api.Segment) { s.Enc[0] = 0 },
		func(s *api.Segment) { s.Types[0] = api.Small }, func(s *api.Segment) { s.Zones[1].Nulls = 0 }, func(s *api.Segment) { s.Zones[0].Min = sample.Int(0) }, func(s *api.Segment) { s.Zones[0].Max = sample.Small(2) },
		func(s *api.Segment) { s.Cols[0][0] = sample.Int(2); s.Cols[0][1] = sample.Int(1) }, func(s *api.Segment) { s.Cols[1] = s.Cols[1][:1] }, func(s *api.Segment) { *s = api.Segment{} },
	} {
		s := made(t)
		if turn(&s); seg.May(s) || seg.Put(s) != nil {
			t.Errorf("%d: %v may be", i, s)
		}
	}
	s := made(t)
	if s.SortBy = 2; !seg.May(s) {
		t.Error("sorted by the other column")
	}
	if s.SortBy = 0; !seg.May(s) {
		t.Error("sorted by none")
	}
}

func TestTakeOfNone(t *testing.T) {
	for k := range len(twoBytes) {
		if s, ok := seg.Take([]byte(twoBytes[:k])); ok || !reflect.DeepEqual(s, api.Segment{}) {
			t.Errorf("cut off at %d", k)
		}
	}
	if _, ok := seg.Take([]byte(twoBytes + "\x00")); ok {
		t.Error("something behind it")
	}
	for at := range len(twoBytes) {
		for bit := range 8 {
			b := []byte(twoBytes)
			b[at] ^= 1 << bit
			if s, ok := seg.Take(b); ok && string(seg.Put(s)) != string(b) {
				t.Errorf("bit %d of byte %d: %v", bit, at, s)
			} else if ok && at != 2 && at != 3 && at != 4 && at != 5 && at < 8 {
				t.Errorf("bit %d of byte %d: %v", bit, at, s)
			}
		}
	}
	for _, b := range []string{"", "SG", "SG\x00\x00\x00\x00\xff\xff", "SG\x00\x00\x00\x00\x06\x10\x04\x00\x00\x00\xff\xff"} {
		if _, ok := seg.Take([]byte(b)); ok {
			t.Errorf("%x is taken", b)
		}
	}
}

func TestWhatIsPutIsTaken(t *testing.T) {
	r := rand.New(rand.NewSource(6))
	for range 2000 {
		width, rows := 1+r.Intn(6), 1+r.Intn(16)
		var types, enc []int
		var cols [][]api.Value
		for range width {
			ty := 1 + r.Intn(4)
			l := make([]api.Value, rows)
			for i := range l {
				if r.Intn(5) > 0 {
					l[i] = api.Value{Type: ty, I: int64(r.Intn(2))}
					if ty == api.Text {
						l[i] = sample.Text([]string{"a", "bb", "twenty letters, just"}[r.Intn(3)])
					}
				}
			}
			types, enc, cols = append(types, ty), append(enc, 1+r.Intn(5)), append(cols, l)
		}
		s, ok := seg.Make(r.Intn(201), r.Intn(4), 0, types, enc, cols)
		if got, ok2 := seg.Take(seg.Put(s)); !ok || !ok2 || !reflect.DeepEqual(got, s) {
			t.Fatalf("%v: %v", s, got)
		}
	}
}

func TestRowsOfNone(t *testing.T) {
	if seg.Rows(api.Segment{}) != 0 || seg.Rows(api.Segment{Cols: [][]api.Value{nil, sample.Ints(1)}}) != 0 {
		t.Error("rows of what is none")
	}
}
