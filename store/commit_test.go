package store_test

import (
	"bytes"
	"fmt"
	"reflect"
	"slices"
	"testing"

	"rabbet/api"
	"rabbet/batch"
	"rabbet/cat"
	"rabbet/log"
	"rabbet/part"
	"rabbet/sample"
	"rabbet/seg"
	"rabbet/store"
)

func TestKeep(t *testing.T) {
	d := device(300)
	s := made(t, d, 60, nil)
	sc, l := base()
	l.PartBy, l.Parts = 2, 3
	mixed := rows(0, 60)
	slices.Reverse(mixed)
	items, e := s.Keep(7, 1, sc, l, mixed)
	if e != api.OK {
		t.Fatal(e)
	}
	var all []api.Row
	last, taken := 0, 0
	for k, i := range items {
		g, ok := s.Load(i)
		if !ok || g.Version != 7 || g.SortBy != 1 || g.Part != i.Part || seg.Rows(g) != i.Rows || i.Part < last {
			t.Fatalf("%d: %v", k, i)
		}
		if k+1 < len(items) && items[k+1].Part == i.Part && (i.Rows != api.SegRows || g.Cols[0][15].I > mustLoad(t, s, items[k+1]).Cols[0][0].I) {
			t.Errorf("%d: not as full as may be, or out of order", k)
		}
		for _, r := range batch.Rows(g.Cols) {
			if part.Of(r[1], 3) != i.Part {
				t.Errorf("%d: a row of another part", k)
			}
		}
		if i.E.N != (i.Bytes+127)/128 || i.E.At != 122+taken {
			t.Errorf("%d: %v", k, i)
		}
		b, _ := d.Read(i.E.At + i.E.N - 1)
		if tail := b[(i.Bytes-1)%128+1:]; !bytes.Equal(tail, make([]byte, len(tail))) {
			t.Errorf("%d: noughts behind", k)
		}
		last, taken = i.Part, taken+i.E.N
		all = append(all, batch.Rows(g.Cols)...)
	}
	if !batch.SameBag(all, mixed) || s.Used() != taken {
		t.Errorf("%d rows, %d blocks", len(all), s.Used())
	}
	d.Crash(nil, -1, 0)
	if _, ok := s.Load(items[0]); !ok {
		t.Error("what is kept is sure")
	}
	if e := s.Commit(cat.Record{Kind: cat.Undone}); e != api.EForm || s.Used() != 0 {
		t.Errorf("fine or not, just those blocks are taken that the state names: %d", s.Used())
	}
}

func mustLoad(t *testing.T, s *store.Store, i api.Item) api.Segment {
	t.Helper()
	g, ok := s.Load(i)
	if !ok {
		t.Fatalf("%v is not there", i)
	}
	return g
}

func TestKeepAsTheyAre(t *testing.T) {
	s := made(t, device(300), 60, nil)
	sc, l := base()
	l.SortBy = 1
	back := rows(0, 20)
	slices.Reverse(back)
	items, e := s.Keep(0, 0, sc, l, back)
	if e != api.OK || len(items) != 2 || items[0].Rows != 16 {
		t.Fatalf("%v %v", e, items)
	}
	g := mustLoad(t, s, items[0])
	if g.SortBy != 0 || !batch.SameRows(batch.Rows(g.Cols), back[:16]) {
		t.Errorf("%v", g)
	}
	if items, e := s.Keep(0, 0, sc, l, nil); e != api.OK || len(items) != 0 {
		t.Errorf("no rows: %v %v", e, items)
	}
}

func TestKeepErrors(t *testing.T) {
	sc, l := base()
	d := device(124) // two blocks of room
	s := made(t, d, 60, nil)
	writes := d.Writes()
	for i, n := range []int{17, 33} {
		if items, e := s.Keep(0, 0, sc, l, rows(0, n)); e != api.EFull || items != nil || s.Used() != 0 || d.Writes() != writes {
			t.Errorf("%d: no room: %v %v, %d taken", i, e, items, s.Used())
		}
	}
	if items, e := s.Keep(0, 0, sc, l, rows(0, 16)); e != api.OK || len(items) != 1 || s.Used() != 2 {
		t.Errorf("just as much as there is room for: %v", e)
	}
	s = made(t, device(2000), 60, nil)
	if items, e := s.Keep(0, 0, sc, l, rows(0, 60*16+1)); e != api.EFull || items != nil || s.Used() != 0 {
		t.Errorf("more than MaxSegs: %v", e)
	}
	if items, e := s.Keep(0, 0, sc, l, rows(0, 60*16)); e != api.OK || len(items) != 60 {
		t.Errorf("just MaxSegs: %v", e)
	}
	used := s.Used()
	for i, x := range []struct {
		version int
		sc      api.Schema
		l       api.Layout
		rows    []api.Row
	}{{0, sc, l, []api.Row{row(1)[:1]}}, {201, sc, l, rows(0, 1)}, {0, api.Schema{}, l, rows(0, 1)}, {0, sc, api.Layout{}, rows(0, 1)}, {0, sc, l, []api.Row{sample.Ints(1, 2, 3)}}} {
		if items, e := s.Keep(x.version, 0, x.sc, x.l, x.rows); e == api.OK || items != nil || s.Used() != used {
			t.Errorf("%d: %v", i, e)
		}
	}
}

func TestLoadOfNone(t *testing.T) {
	s := made(t, device(300), 60, nil)
	insert(t, s, rows(0, 40))
	good := s.State().Segs[0]
	for i, turn := range []func(i *api.Item){
		func(i *api.Item) { i.E.At++ }, func(i *api.Item) { i.E.At = -1 }, func(i *api.Item) { i.E.At = 299 }, func(i *api.Item) { i.E.At = 1 << 62 }, func(i *api.Item) { i.E.N = 0 }, func(i *api.Item) { i.E.N = 1 << 62 }, func(i *api.Item) { i.E.N = -1 },
		func(i *api.Item) { i.Bytes-- }, func(i *api.Item) { i.Bytes++ }, func(i *api.Item) { i.Bytes = 0 }, func(i *api.Item) { i.Bytes = -5 }, func(i *api.Item) { i.Bytes = 1 << 62 }, func(i *api.Item) { i.E.N--; i.Bytes = i.E.N*api.Size + 1 }, func(i *api.Item) { *i = api.Item{} },
	} {
		bad := good
		turn(&bad)
		if g, ok := s.Load(bad); ok || !reflect.DeepEqual(g, api.Segment{}) {
			t.Errorf("%d: %v", i, bad)
		}
	}
}

func TestCommitErrors(t *testing.T) {
	d := device(300)
	s := made(t, d, 60, nil)
	insert(t, s, rows(0, 40))
	was, n := s.State(), d.Writes()
	items := func(n int) []api.Item {
		var l []api.Item
		for k := range n {
			l = append(l, api.Item{E: api.Extent{At: 200 + k, N: 1}, Bytes: 1, Rows: 1})
		}
		return l
	}
	over := api.State{Schema: was.Schema, Layout: was.Layout, Segs: items(61)}
	for i, x := range []struct {
		r    cat.Record
		want api.Errno
	}{
		{cat.Record{}, api.EForm}, {cat.Record{Kind: cat.Cut}, api.EForm}, {cat.Record{Kind: cat.Fresh}, api.EForm}, {cat.Record{Kind: cat.Flushed, N: 9}, api.EForm}, {cat.Record{Kind: cat.Undone, N: 1}, api.EForm},
		{cat.Record{Kind: cat.Flushed, N: 8, Items: items(59)}, api.EFull}, {cat.Record{Kind: cat.Flushed, N: 99, Items: items(61)}, api.EFull}, {cat.Record{Kind: cat.All, State: over}, api.EFull}, {cat.Record{Kind: cat.Flushed, N: 8, Items: was.Segs}, api.EForm},
	} {
		if e := s.Commit(x.r); e != x.want || d.Writes() != n || !reflect.DeepEqual(s.State(), was) {
			t.Errorf("%d: %v", i, e)
		}
		sound(t, s)
	}
	if e := s.Commit(cat.Record{Kind: cat.Begun, Change: api.Change{Kind: api.Redict}}); e != api.OK {
		t.Fatal(e)
	}
	for i, r := range []cat.Record{{Kind: cat.Moved, Items: items(61)}, {Kind: cat.Flushed, N: 8, More: items(61)}} {
		if e := s.Commit(r); e != api.EFull {
			t.Errorf("%d: %v", i, e)
		}
	}
	if e := s.Commit(cat.Record{Kind: cat.Moved, Items: items(60)}); e != api.OK || s.Used() != extents(s) {
		t.Errorf("just MaxSegs: %v", e)
	}
	if e := s.Commit(cat.Record{Kind: cat.Moved, Items: []api.Item{{E: api.Extent{At: 280, N: 1}, Bytes: 1, Rows: 1}}}); e != api.EFull {
		t.Errorf("one more: %v", e)
	}
}

func extents(s *store.Store) int {
	n := 0
	for _, e := range cat.Extents(s.State()) {
		n += e.N
	}
	return n
}

// TestCommitOfNoRoom: a record All of what would come must have room in an area.
func TestCommitOfNoRoom(t *testing.T) {
	d := device(100)
	s := made(t, d, 2, nil)
	n, e := 0, api.OK
	for e == api.OK {
		was, writes := s.State(), d.Writes()
		if e = s.Insert(rows(n, 1)); e == api.OK {
			n++
		} else if d.Writes() != writes || !reflect.DeepEqual(s.State(), was) {
			t.Error("something has changed")
		}
	}
	if e != api.EFull || n == 0 || n > 32 {
		t.Fatalf("behind %d rows: %v", n, e)
	}
	has(t, s, rows(0, n))
	d.Crash(nil, -1, 0)
	s = opened(t, d, 2)
	has(t, s, rows(0, n))
	if e := s.Flush(); e != api.OK {
		t.Fatalf("%v", e)
	}
	insert(t, s, rows(n, 1))
	has(t, s, rows(0, n+1))
}

// TestCommitBegunOfJustRoom: though the record itself has room behind the others, nothing is begun of which all has none.
func TestCommitBegunOfJustRoom(t *testing.T) {
	seen := map[int]bool{}
	for n := range 4 * 21 * 12 {
		sc, l := wideTable(2 + n%4)
		sc.Cols[0].Name = sc.Cols[0].Name[:1+n/4%12]
		begun := cat.Record{Kind: cat.Begun, Change: api.Change{Kind: api.Add, Name: "another_name", Type: api.Text, Value: sample.Text("a text of its length"[:n/48])}}
		state := api.State{Schema: sc, Layout: l}
		area := (len(cat.Put(cat.Record{Kind: cat.All, State: state}))+113)/110 + 1
		next, e := cat.Apply(state, begun)
		if e != api.OK {
			t.Fatal(e)
		}
		room := area*110 - 4 - len(cat.Put(cat.Record{Kind: cat.All, State: next}))
		if seen[room] || room < -1 || room > 0 {
			continue
		}
		seen[room] = true
		d := device(30)
		if e := store.Make(d, area, sc, l); e != api.OK {
			t.Fatal(e)
		}
		s := opened(t, d, area)
		writes := d.Writes()
		e = s.Commit(begun)
		if (e == api.OK) != (room == 0) || e != api.OK && (e != api.EFull || d.Writes() != writes || s.State().Busy) {
			t.Errorf("%d bytes of room: %v", room, e)
		}
	}
	if !seen[0] || !seen[-1] {
		t.Error("it was never just so")
	}
}

// TestCommitOfJustRoom: a record All that just has room in the area, and one that is a byte longer.
func TestCommitOfJustRoom(t *testing.T) {
	const letters = "twenty letters, just"
	seen := map[int]bool{}
	for n := range 21 * 21 {
		s := made(t, device(100), 3, nil)
		for left := 150 + n/21; left > 0; left -= 20 {
			s.Insert([]api.Row{sample.List(sample.Null(), sample.Text(letters[:min(left, 20)]), sample.Null())})
			s.Tidy()
		}
		r := cat.Record{Kind: cat.Fresh, Rows: []api.Row{sample.List(sample.Null(), sample.Text(letters[:n%21]), sample.Null()), make(api.Row, 3)}}
		next, _ := cat.Apply(s.State(), r)
		room := 3*110 - 4 - len(cat.Put(cat.Record{Kind: cat.All, State: next}))
		e := s.Commit(r)
		if e != api.OK && e != api.EFull || (e == api.OK) != (room >= 0) {
			t.Fatalf("%d bytes of room: %v", room, e)
		}
		seen[room] = true
	}
	if !seen[0] || !seen[-1] {
		t.Error("it was never just so")
	}
}

// TestJustBlocks: a segment of just so many bytes as its blocks have.
func TestJustBlocks(t *testing.T) {
	s := made(t, device(300), 60, nil)
	sc, l := base()
	for n := range 200 {
		var long []api.Row
		for left := n; left > 0; left -= 20 {
			long = append(long, sample.List(sample.Int(1), sample.Text(fmt.Sprintf("%02d twenty letters it is", n%100)[:min(left, 20)]), sample.Null()))
		}
		l.Enc[1] = api.Plain
		items, e := s.Keep(0, 0, sc, l, append(long, row(1)))
		if e != api.OK {
			t.Fatal(e)
		}
		if items[0].Bytes%api.Size == 0 {
			if items[0].E.N != items[0].Bytes/api.Size {
				t.Errorf("%v", items[0])
			}
			mustLoad(t, s, items[0])
			return
		}
		s.Commit(cat.Record{})
	}
	t.Error("it was never just so")
}

// TestCommitMakesLogAnew: where a record has no room behind the others, one of all takes their place.
func TestCommitMakesLogAnew(t *testing.T) {
	d := device(300)
	s := made(t, d, 20, nil)
	insert(t, s, rows(0, 300))
	has(t, s, rows(0, 300))
	d.Crash(nil, -1, 0)
	_, recs, _ := log.Open(d.Copy(), 20)
	if len(recs) > 15 {
		t.Errorf("%d records", len(recs))
	}
	has(t, opened(t, d, 20), rows(0, 300))
}

// TestNoRoomForSegments: what has no room changes nothing, and takes nothing.
func TestNoRoomForSegments(t *testing.T) {
	d := device(140)
	s := made(t, d, 60, nil)
	n := 0
	for {
		was := s.State()
		e := s.Insert(rows(n, 4))
		if e == api.OK {
			n += 4
			continue
		}
		if e != api.EFull || !reflect.DeepEqual(s.State(), was) {
			t.Fatalf("behind %d rows: %v", n, e)
		}
		break
	}
	sound(t, s)
	has(t, s, rows(0, n))
	if s.Flush() != api.EFull {
		t.Error("there is no room")
	}
	sound(t, s)
}

// TestNoRoomForNext: what was kept of a flush is free again, if what is to come has no room.
func TestNoRoomForNext(t *testing.T) {
	for blocks := 122; blocks < 140; blocks++ {
		d := device(blocks)
		s := made(t, d, 60, nil)
		insert(t, s, rows(0, 32))
		if e := s.Commit(cat.Record{Kind: cat.Begun, Change: api.Change{Kind: api.Resort, Col: 1}}); e != api.OK {
			t.Fatal(e)
		}
		was := s.State()
		if e := s.Flush(); e != api.OK && (e != api.EFull || !reflect.DeepEqual(s.State(), was) || s.Used() != 0) {
			t.Errorf("%d blocks: %v", blocks, e)
		}
		sound(t, s)
		has(t, s, rows(0, 32))
	}
}

// TestFlushedStays: what an insert flushed stays so, whatever comes behind.
func TestFlushedStays(t *testing.T) {
	d := device(60)
	s := made(t, d, 10, nil)
	n := 0
	for range 60 {
		before := s.State()
		e := s.Insert(rows(n, 8))
		after := s.State()
		if e == api.OK {
			n += 8
		}
		if e != api.OK && len(after.Segs) == len(before.Segs) && !reflect.DeepEqual(after, before) {
			t.Fatalf("%v", e)
		}
		sound(t, s)
		has(t, s, rows(0, n))
	}
}

// TestCrash: behind any crash there is what the last answered insert left, or what the one in flight would have.
func TestCrash(t *testing.T) {
	for stop := 0; stop < 120; stop++ {
		for _, keep := range [][]byte{nil, {0xff, 0xff, 0xff, 0xff, 0xff}, {0x35, 0xc7, 0x5a, 0x99, 0x01}} {
			for _, torn := range []int{-1, 0, 3} {
				crash(t, stop, keep, torn)
			}
		}
	}
}

func crash(t *testing.T, stop int, keep []byte, torn int) {
	t.Helper()
	d := device(80)
	s := made(t, d, 12, func(l *api.Layout) { l.PartBy, l.Parts, l.SortBy = 1, 2, 3 })
	insert(t, s, rows(0, 16))
	d.Stop(stop)
	done := 16
	for k := range 6 {
		if e := s.Insert(rows(16+8*k, 8)); e != api.OK {
			t.Fatalf("%v", e)
		}
		if d.Stopped() {
			break
		}
		done += 8
	}
	d.Crash(keep, torn, 77)
	again := opened(t, d, 12)
	got, e := again.Query(api.Query{})
	if e != api.OK || !batch.SameBag(got, rows(0, done)) && !batch.SameBag(got, rows(0, done+8)) {
		t.Fatalf("stopped behind %d: %v, %d rows", stop, e, len(got))
	}
	has(t, opened(t, d, 12), got)
}
