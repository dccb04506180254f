package mig_test

import (
	"fmt"
	"reflect"
	"testing"

	"rabbet/api"
	"rabbet/batch"
	"rabbet/cat"
	"rabbet/change"
	"rabbet/dev"
	"rabbet/mig"
	"rabbet/model"
	"rabbet/sample"
	"rabbet/schema"
	"rabbet/store"
)

func base() (api.Schema, api.Layout) {
	s := api.Schema{Cols: []api.Column{{ID: 1, Name: "n", Type: api.Int}, {ID: 2, Name: "t", Type: api.Text}, {ID: 3, Name: "b", Type: api.Bool}}, Last: 3}
	return s, api.Layout{Parts: 1, Enc: []int{api.Delta, api.Dict, api.RLE}}
}

func rows(from, n int) []api.Row {
	var l []api.Row
	for i := from; i < from+n; i++ {
		r := sample.List(sample.Int(int64(i*7%50)), sample.Text(fmt.Sprintf("k%d:v%d", i%4, i)), sample.Bool(int64(i%2)))
		if i%9 == 0 {
			r = make(api.Row, 3)
		}
		l = append(l, r)
	}
	return l
}

// made is a table of n rows, in segments of 16.
func made(t *testing.T, blocks, n int) *store.Store {
	t.Helper()
	d, _ := dev.New(blocks)
	s, l := base()
	if e := store.Make(d, 60, s, l); e != api.OK {
		t.Fatal(e)
	}
	st, e := store.Open(d, 60)
	if e != api.OK {
		t.Fatal(e)
	}
	insert(t, st, 0, n)
	if e := st.Flush(); e != api.OK {
		t.Fatal(e)
	}
	return st
}

func insert(t *testing.T, s *store.Store, from, n int) {
	t.Helper()
	for i := 0; i < n; i += 8 {
		if e := s.Insert(rows(from+i, min(8, n-i))); e != api.OK {
			t.Fatal(e)
		}
	}
}

func has(t *testing.T, s *store.Store, want []api.Row) {
	t.Helper()
	if fault := model.Sound(s); fault != "" {
		t.Fatal(fault)
	}
	if got, e := s.Query(api.Query{}); e != api.OK || !batch.SameBag(got, want) {
		t.Fatalf("%v: %d rows, not %d: %v", e, len(got), len(want), got)
	}
}

var changes = []api.Change{
	{Kind: api.Add, Name: "new", Type: api.Text, Value: sample.Text("x")},
	{Kind: api.Drop, Col: 2},
	{Kind: api.Rename, Col: 1, Name: "m"},
	{Kind: api.Widen, Col: 3},
	{Kind: api.Split, Col: 2, Name: "tail", Sep: ':'},
	{Kind: api.Resort, Col: 1},
	{Kind: api.Repart, Col: 2, N: 3},
	{Kind: api.Redict},
	{Kind: api.Recode, Col: 1, N: api.Dict},
}

// TestEachKind: old answers up to the last step, new ones behind it; n + 1 steps, whatever is inserted meanwhile.
func TestEachKind(t *testing.T) {
	for _, c := range changes {
		s := made(t, 1000, 40)
		old, l := base()
		if e := mig.Start(s, c); e != api.OK {
			t.Fatalf("kind %d: %v", c.Kind, e)
		}
		n := 40
		for step := range 4 {
			has(t, s, rows(0, n))
			insert(t, s, n, 8)
			n += 8
			if step == 1 && s.Flush() != api.OK {
				t.Fatal("Flush")
			}
			has(t, s, rows(0, n))
			done, e := mig.Step(s)
			if e != api.OK || done != (step == 3) {
				t.Fatalf("kind %d, step %d: %v %v", c.Kind, step, done, e)
			}
		}
		want, _ := change.Rows(old, c, rows(0, n))
		has(t, s, want)
		if same := c.Kind == api.Resort || c.Kind == api.Repart || c.Kind == api.Redict || c.Kind == api.Recode; same && !batch.SameBag(want, rows(0, n)) {
			t.Errorf("kind %d changes rows", c.Kind)
		}
		st := s.State()
		newS, newL, _ := schema.Apply(old, l, c)
		if st.Busy || st.Version != 1 || !reflect.DeepEqual(st.Schema, newS) || !reflect.DeepEqual(st.Layout, newL) {
			t.Errorf("kind %d: %v", c.Kind, st)
		}
		if done, e := mig.Step(s); done || e != api.EIdle {
			t.Errorf("kind %d: a step more: %v", c.Kind, e)
		}
	}
}

func TestStartErrors(t *testing.T) {
	s := made(t, 300, 20)
	for _, x := range []struct {
		c    api.Change
		want api.Errno
	}{{api.Change{}, api.EArg}, {api.Change{Kind: api.Drop, Col: 9}, api.ENone}, {api.Change{Kind: api.Widen, Col: 1}, api.EType}, {api.Change{Kind: api.Rename, Col: 1, Name: "t"}, api.EExist}} {
		if e := mig.Start(s, x.c); e != x.want || s.State().Busy {
			t.Errorf("%v: %v", x.c, e)
		}
	}
	if e := mig.Start(s, changes[0]); e != api.OK || !s.State().Busy {
		t.Fatal(e)
	}
	if e := mig.Start(s, api.Change{}); e != api.EBusy {
		t.Errorf("one is on the way: %v", e)
	}
	has(t, s, rows(0, 20))
}

func TestEmptyTable(t *testing.T) {
	s := made(t, 300, 0)
	if e := mig.Start(s, changes[1]); e != api.OK {
		t.Fatal(e)
	}
	if done, e := mig.Step(s); !done || e != api.OK {
		t.Errorf("%v %v", done, e)
	}
}

// TestLastVersion: there are MaxChange changes, and no more.
func TestLastVersion(t *testing.T) {
	s := made(t, 300, 0)
	for i := range api.MaxChange {
		if e := mig.Start(s, api.Change{Kind: api.Redict}); e != api.OK {
			t.Fatalf("%d: %v", i, e)
		}
		if done, e := mig.Step(s); !done || e != api.OK {
			t.Fatalf("%d: %v", i, e)
		}
	}
	if e := mig.Start(s, api.Change{Kind: api.Redict}); e != api.EFull || s.State().Version != api.MaxChange {
		t.Errorf("%v", e)
	}
	if e := mig.Start(s, api.Change{Kind: api.Drop, Col: 9}); e != api.ENone {
		t.Errorf("the schema's error comes first: %v", e)
	}
}

func TestUndo(t *testing.T) {
	s := made(t, 300, 40)
	if e := mig.Undo(s); e != api.EIdle {
		t.Errorf("none is on the way: %v", e)
	}
	was, used := s.State(), s.Used()
	for steps := range 4 {
		if e := mig.Start(s, changes[4]); e != api.OK {
			t.Fatal(e)
		}
		for range steps {
			if done, e := mig.Step(s); done || e != api.OK {
				t.Fatal(e)
			}
		}
		if steps > 0 && s.Used() <= used {
			t.Error("what is to come takes no room")
		}
		if e := mig.Undo(s); e != api.OK || s.Used() != used || !reflect.DeepEqual(s.State(), was) {
			t.Errorf("behind %d steps: %v", steps, e)
		}
		has(t, s, rows(0, 40))
	}
}

// TestNoRoom: a step that has no room changes nothing, and the next one tries again.
func TestNoRoom(t *testing.T) {
	full := 0
	for blocks := 122; blocks < 160; blocks += 3 {
		d, _ := dev.New(blocks)
		sc, l := base()
		store.Make(d, 60, sc, l)
		s, _ := store.Open(d, 60)
		n := 0
		for n < 32 && s.Insert(rows(n, 8)) == api.OK {
			n += 8
		}
		if s.Flush() != api.OK || mig.Start(s, changes[0]) != api.OK {
			continue
		}
		for step := 0; ; step++ {
			was := s.State()
			done, e := mig.Step(s)
			if e != api.OK {
				if e != api.EFull || done || !reflect.DeepEqual(s.State(), was) {
					t.Fatalf("%d blocks: %v %v", blocks, done, e)
				}
				if done, e = mig.Step(s); done || e != api.EFull {
					t.Fatalf("again: %v", e)
				}
				full++
				break
			}
			if done {
				break
			}
		}
		if fault := model.Sound(s); fault != "" {
			t.Fatal(fault)
		}
	}
	if full == 0 {
		t.Error("there was room for all")
	}
}

// TestTriesAgain: behind an error the same segment is turned, once there is room.
func TestTriesAgain(t *testing.T) {
	s := made(t, 200, 48)
	if e := mig.Start(s, changes[0]); e != api.OK {
		t.Fatal(e)
	}
	sc, l := base()
	for {
		if _, e := s.Keep(0, 0, sc, l, rows(0, 1)); e != api.OK {
			break
		}
	}
	if done, e := mig.Step(s); done || e != api.EFull {
		t.Fatalf("%v %v", done, e)
	}
	s.Commit(cat.Record{}) // what no state names is free again
	for step := range 4 {
		if done, e := mig.Step(s); e != api.OK || done != (step == 3) {
			t.Fatalf("step %d: %v", step, e)
		}
	}
	want, _ := change.Rows(sc, changes[0], rows(0, 48))
	has(t, s, want)
}

// TestLostSegment: of a segment that is not there no step makes anything else.
func TestLostSegment(t *testing.T) {
	d, _ := dev.New(300)
	sc, l := base()
	store.Make(d, 60, sc, l)
	s, _ := store.Open(d, 60)
	insert(t, s, 0, 16)
	if s.Flush() != api.OK || mig.Start(s, changes[0]) != api.OK {
		t.Fatal("it is not begun")
	}
	d.Write(s.State().Segs[0].E.At, make([]byte, api.Size))
	was := s.State()
	if done, e := mig.Step(s); done || e == api.OK || !reflect.DeepEqual(s.State(), was) {
		t.Errorf("%v %v", done, e)
	}
}

func TestNil(t *testing.T) {
	done, e := mig.Step(nil)
	if mig.Start(nil, changes[0]) != api.EArg || done || e != api.EArg || mig.Undo(nil) != api.EArg {
		t.Error("of a nil Store")
	}
}
