package store_test

import (
	"fmt"
	"reflect"
	"slices"
	"strings"
	"testing"

	"rabbet/api"
	"rabbet/batch"
	"rabbet/cat"
	"rabbet/dev"
	"rabbet/log"
	"rabbet/model"
	"rabbet/sample"
	"rabbet/schema"
	"rabbet/seg"
	"rabbet/store"
)

func base() (api.Schema, api.Layout) {
	s := api.Schema{Cols: []api.Column{{ID: 1, Name: "n", Type: api.Int}, {ID: 2, Name: "t", Type: api.Text}, {ID: 3, Name: "b", Type: api.Small}}, Last: 3}
	return s, api.Layout{Parts: 1, Enc: []int{api.Delta, api.Dict, api.RLE}}
}

func row(n int) api.Row {
	return sample.List(sample.Int(int64(n)), sample.Text(fmt.Sprint("text ", n%5)), sample.Small(int64(-n%3)))
}

func rows(from, n int) []api.Row {
	var l []api.Row
	for i := range n {
		l = append(l, row(from+i))
	}
	return l
}

func device(blocks int) *dev.Dev {
	d, _ := dev.New(blocks)
	return d
}

// made is a table on d of the layout that turn makes.
func made(t *testing.T, d *dev.Dev, area int, turn func(l *api.Layout)) *store.Store {
	t.Helper()
	s, l := base()
	if turn != nil {
		turn(&l)
	}
	if e := store.Make(d, area, s, l); e != api.OK {
		t.Fatalf("Make: %v", e)
	}
	return opened(t, d, area)
}

func opened(t *testing.T, d *dev.Dev, area int) *store.Store {
	t.Helper()
	s, e := store.Open(d, area)
	if e != api.OK {
		t.Fatalf("Open: %v", e)
	}
	sound(t, s)
	return s
}

func sound(t *testing.T, s *store.Store) {
	t.Helper()
	if fault := model.Sound(s); fault != "" {
		t.Fatal(fault)
	}
}

func insert(t *testing.T, s *store.Store, l []api.Row) {
	t.Helper()
	for len(l) > 0 {
		n := min(len(l), api.MaxRows)
		if e := s.Insert(l[:n]); e != api.OK {
			t.Fatalf("Insert: %v", e)
		}
		l = l[n:]
	}
	sound(t, s)
}

func has(t *testing.T, s *store.Store, want []api.Row) {
	t.Helper()
	got, e := s.Query(api.Query{})
	if e != api.OK || !batch.SameBag(got, want) {
		t.Fatalf("%v: %d rows, not %d", e, len(got), len(want))
	}
}

func TestMakeOpen(t *testing.T) {
	d := device(200)
	s := made(t, d, 40, nil)
	sc, l := base()
	if st := s.State(); !reflect.DeepEqual(st, api.State{Schema: sc, Layout: l}) || s.Used() != 0 {
		t.Errorf("%v", st)
	}
	has(t, s, nil)
	_, recs, e := log.Open(d.Copy(), 40)
	if e != api.OK || len(recs) != 1 {
		t.Errorf("the log has one record: %d", len(recs))
	}
	if r, e := cat.Take(recs[0]); e != api.OK || r.Kind != cat.All {
		t.Errorf("it is All: %v", r.Kind)
	}
}

func TestMakeErrors(t *testing.T) {
	sc, l := base()
	for i, x := range []struct {
		d    *dev.Dev
		area int
		s    api.Schema
		l    api.Layout
		want api.Errno
	}{
		{nil, 40, sc, l, api.EArg}, {device(200), 40, api.Schema{}, l, api.EArg}, {device(200), 40, sc, api.Layout{}, api.EArg}, {device(200), 0, sc, l, api.EArg}, {device(81), 40, sc, l, api.EArg}, {device(82), 40, sc, l, api.OK}, {device(4000), 1001, sc, l, api.EArg},
	} {
		if e := store.Make(x.d, x.area, x.s, x.l); e != x.want {
			t.Errorf("%d: %v", i, e)
		}
	}
	twice, none := base()
	twice.Cols[1].Name, none.Parts = "n", 0
	if e := store.Make(device(200), 40, twice, l); e != api.EArg {
		t.Errorf("a schema that may not be: %v", e)
	}
	if e := store.Make(device(200), 40, sc, none); e != api.EArg {
		t.Errorf("a layout that may not be: %v", e)
	}
	long, wide := wideTable(6)
	if e := store.Make(device(20), 1, long, wide); e != api.EFull {
		t.Errorf("a log of one block: %v", e)
	}
}

// wideTable is a table of columns with long names.
func wideTable(n int) (api.Schema, api.Layout) {
	s, l := api.Schema{Last: 9999}, api.Layout{Parts: 1}
	for k := range n {
		s.Cols = append(s.Cols, api.Column{ID: 9990 + k, Name: strings.Repeat(string(rune('a'+k)), 12), Type: api.Text})
		l.Enc = append(l.Enc, api.Plain)
	}
	return s, l
}

// TestOpenOfNoRoom: records that have room one by one, but not all that comes of them in one.
func TestOpenOfNoRoom(t *testing.T) {
	s, l := wideTable(4)
	state := api.State{Schema: s, Layout: l}
	begun := cat.Record{Kind: cat.Begun, Change: api.Change{Kind: api.Add, Name: "another_name", Type: api.Text, Value: sample.Text("a text of its length")}}
	first := cat.Put(cat.Record{Kind: cat.All, State: state})
	state, _ = cat.Apply(state, begun)
	area := (len(first)+113)/110 + 1
	if whole := cat.Put(cat.Record{Kind: cat.All, State: state}); len(whole)+4 <= area*110 {
		t.Fatalf("%d bytes have room in %d blocks", len(whole), area)
	}
	d := device(30)
	if e := log.Make(d, area, [][]byte{first, cat.Put(begun)}); e != api.OK {
		t.Fatal(e)
	}
	if s, e := store.Open(d, area); s != nil || e != api.EFull {
		t.Errorf("%v", e)
	}
}

func TestLostSegment(t *testing.T) {
	d := device(300)
	s := made(t, d, 60, nil)
	insert(t, s, rows(0, 40))
	d.Write(s.State().Segs[1].E.At, make([]byte, api.Size))
	if got, e := s.Query(api.Query{}); e == api.OK || got != nil {
		t.Errorf("a segment is not there: %v", got)
	}
	if got, e := s.Query(api.Query{Limit: -1}); e != api.EArg || got != nil {
		t.Errorf("the question comes first: %v", e)
	}
}

func TestOpenErrors(t *testing.T) {
	sc, l := base()
	good := cat.Put(cat.Record{Kind: cat.All, State: api.State{Schema: sc, Layout: l}})
	at := func(at, n int) []byte {
		st := api.State{Schema: sc, Layout: l, Segs: []api.Item{{E: api.Extent{At: at, N: n}, Bytes: 1, Rows: 1}}}
		return cat.Put(cat.Record{Kind: cat.All, State: st})
	}
	fresh := cat.Put(cat.Record{Kind: cat.Fresh, Rows: rows(0, 1)})
	for i, x := range []struct {
		recs [][]byte
		want api.Errno
	}{
		{[][]byte{good}, api.OK}, {[][]byte{good, fresh, good}, api.OK}, {nil, api.EForm}, {[][]byte{fresh}, api.EForm}, {[][]byte{{1, 2, 3}}, api.EForm}, {[][]byte{good, {99}}, api.EForm}, {[][]byte{good, cat.Put(cat.Record{Kind: cat.Cut})}, api.EForm},
		{[][]byte{at(22, 1)}, api.OK}, {[][]byte{at(29, 1)}, api.OK}, {[][]byte{at(22, 8)}, api.OK}, {[][]byte{at(21, 1)}, api.EForm}, {[][]byte{at(29, 2)}, api.EForm}, {[][]byte{at(30, 1)}, api.EForm}, {[][]byte{at(1, 1)}, api.EForm},
	} {
		d := device(30)
		if e := log.Make(d, 10, x.recs); e != api.OK {
			t.Fatal(e)
		}
		if s, e := store.Open(d, 10); e != x.want || (s != nil) != (e == api.OK) {
			t.Errorf("%d: %v", i, e)
		}
	}
	for i, x := range []struct {
		d    *dev.Dev
		area int
		want api.Errno
	}{{nil, 10, api.EArg}, {device(30), 0, api.EArg}, {device(30), 15, api.EArg}, {device(30), 10, api.EForm}} {
		if s, e := store.Open(x.d, x.area); e != x.want || s != nil {
			t.Errorf("%d: %v", i, e)
		}
	}
}

func TestInsert(t *testing.T) {
	d := device(300)
	s := made(t, d, 60, nil)
	insert(t, s, rows(0, 32))
	if st := s.State(); len(st.Buffer) != 32 || len(st.Segs) != 0 {
		t.Errorf("%d rows wait", len(st.Buffer))
	}
	insert(t, s, rows(32, 1))
	if st := s.State(); len(st.Buffer) != 1 || len(st.Segs) != 2 || st.Segs[0].Rows != 16 || st.Segs[1].Rows != 16 {
		t.Errorf("%d rows wait", len(st.Buffer))
	}
	insert(t, s, rows(33, 67))
	has(t, s, rows(0, 100))
	d.Crash(nil, -1, 0)
	has(t, opened(t, d, 60), rows(0, 100))
}

func TestInsertErrors(t *testing.T) {
	d := device(300)
	s := made(t, d, 60, nil)
	insert(t, s, rows(0, 30))
	n := d.Writes()
	wrong := append(rows(0, 1), sample.List(sample.Int(1), sample.Text("a"), sample.Int(1)))
	for i, x := range []struct {
		l    []api.Row
		want api.Errno
	}{{nil, api.EArg}, {rows(0, 9), api.EArg}, {slices.Repeat(wrong, 5), api.EArg}, {wrong, api.EType}, {[]api.Row{row(1)[:2]}, api.EType}, {append(rows(0, 4), nil), api.EType}} {
		if e := s.Insert(x.l); e != x.want || d.Writes() != n {
			t.Errorf("%d: %v", i, e)
		}
	}
	has(t, s, rows(0, 30))
}

func TestFlush(t *testing.T) {
	d := device(300)
	s := made(t, d, 60, nil)
	n := d.Writes()
	if e := s.Flush(); e != api.OK || d.Writes() != n {
		t.Errorf("nothing is done without rows: %v", e)
	}
	insert(t, s, rows(0, 20))
	if e := s.Flush(); e != api.OK {
		t.Fatal(e)
	}
	sound(t, s)
	st := s.State()
	if len(st.Buffer) != 0 || len(st.Segs) != 2 || st.Segs[0].Rows != 16 || st.Segs[1].Rows != 4 {
		t.Errorf("%v", st.Segs)
	}
	if first := st.Segs[0].E; first.At != 122 || st.Segs[1].E.At != first.At+first.N {
		t.Errorf("they lie in the first blocks of the room: %v", st.Segs)
	}
	has(t, s, rows(0, 20))
}

// TestFlushWhileBusy: the rows are kept as they are, and as they will be.
func TestFlushWhileBusy(t *testing.T) {
	s := made(t, device(300), 60, nil)
	insert(t, s, rows(0, 20))
	s.Flush()
	if e := s.Commit(cat.Record{Kind: cat.Begun, Change: api.Change{Kind: api.Drop, Col: 2}}); e != api.OK {
		t.Fatal(e)
	}
	insert(t, s, rows(20, 5))
	if e := s.Flush(); e != api.OK {
		t.Fatal(e)
	}
	sound(t, s)
	st := s.State()
	if len(st.Segs) != 3 || len(st.Next) != 1 || st.Todo != 2 {
		t.Fatalf("%v", st)
	}
	g, ok := s.Load(st.Next[0])
	if !ok || g.Version != 1 || len(g.Cols) != 2 || seg.Rows(g) != 5 || g.Cols[0][0] != sample.Int(20) {
		t.Errorf("%v", g)
	}
	has(t, s, rows(0, 25))
	if e := s.Commit(cat.Record{Kind: cat.Undone}); e != api.OK || len(s.State().Segs) != 3 {
		t.Error(e)
	}
	sound(t, s)
}

func TestQuery(t *testing.T) {
	s := made(t, device(300), 60, func(l *api.Layout) { l.SortBy = 1 })
	insert(t, s, rows(0, 50))
	q := api.Query{Where: []api.Test{{Name: "n", Op: api.More, Value: sample.Int(44)}}, Cols: []string{"n"}, Order: []api.Key{{Name: "n", Down: true}}, Limit: 3}
	got, e := s.Query(q)
	if e != api.OK || !batch.SameRows(got, []api.Row{sample.Ints(49), sample.Ints(48), sample.Ints(47)}) {
		t.Errorf("%v %v", e, got)
	}
	if got, e = s.Query(api.Query{Aggs: []api.Agg{{Op: api.Count}, {Op: api.Sum, Name: "n"}}}); e != api.OK || !batch.SameRows(got, []api.Row{sample.Ints(50, 1225)}) {
		t.Errorf("%v %v", e, got)
	}
	got, e = s.Query(api.Query{Where: []api.Test{{Name: "n", Op: api.Least, Value: sample.Int(30)}}})
	if e != api.OK || !batch.SameBag(got, rows(30, 20)) {
		t.Errorf("%v %v", e, got)
	}
	for _, x := range []struct {
		q    api.Query
		want api.Errno
	}{{api.Query{Limit: -1}, api.EArg}, {api.Query{Cols: []string{"z"}}, api.ENone}, {api.Query{Aggs: []api.Agg{{Op: api.Sum, Name: "t"}}}, api.EType}} {
		if got, e := s.Query(x.q); e != x.want || got != nil {
			t.Errorf("%v: %v", x.q, e)
		}
	}
}

// TestQueryInOrder: rows come segment by segment, then those that wait.
func TestQueryInOrder(t *testing.T) {
	s := made(t, device(300), 60, nil)
	insert(t, s, rows(0, 40))
	if got, e := s.Query(api.Query{}); e != api.OK || !batch.SameRows(got, rows(0, 40)) {
		t.Errorf("%v", e)
	}
	if got, _ := s.Query(api.Query{Limit: 7}); !batch.SameRows(got, rows(0, 7)) {
		t.Errorf("%v", got)
	}
}

func TestTidy(t *testing.T) {
	d := device(300)
	s := made(t, d, 60, nil)
	insert(t, s, rows(0, 40))
	if e := s.Tidy(); e != api.OK {
		t.Fatal(e)
	}
	d.Crash(nil, -1, 0)
	_, recs, _ := log.Open(d.Copy(), 60)
	if len(recs) != 1 {
		t.Errorf("the log has %d records", len(recs))
	}
	has(t, opened(t, d, 60), rows(0, 40))
}

func TestState(t *testing.T) {
	s := made(t, device(300), 60, nil)
	insert(t, s, rows(0, 40))
	st := s.State()
	st.Buffer[0][0], st.Segs[0].Rows, st.Schema.Cols[0].Name, st.Layout.Enc[0] = sample.Null(), 1, "q", 9
	sound(t, s)
	has(t, s, rows(0, 40))
	if _, ok := schema.Find(s.State().Schema, "n"); !ok {
		t.Error("memory is shared")
	}
	l := rows(40, 2)
	s.Insert(l)
	l[0][0] = sample.Null()
	has(t, s, rows(0, 42))
}

func TestNil(t *testing.T) {
	var s *store.Store
	sc, l := base()
	items, e := s.Keep(0, 0, sc, l, rows(0, 1))
	if s.Insert(rows(0, 1)) != api.EArg || s.Flush() != api.EArg || s.Tidy() != api.EArg || s.Commit(cat.Record{Kind: cat.Cut}) != api.EArg || e != api.EArg || items != nil || s.Used() != 0 {
		t.Error("of a nil Store")
	}
	if got, e := s.Query(api.Query{}); e != api.EArg || got != nil {
		t.Error("of a nil Store")
	}
	if _, ok := s.Load(api.Item{E: api.Extent{At: 1, N: 1}, Bytes: 1}); ok || !reflect.DeepEqual(s.State(), api.State{}) {
		t.Error("of a nil Store")
	}
}
