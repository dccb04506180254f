package desk_test

import (
	"math/rand"
	"reflect"
	"testing"

	"rabbet/api"
	"rabbet/batch"
	"rabbet/desk"
	"rabbet/dev"
	"rabbet/model"
	"rabbet/sample"
	"rabbet/store"
)

func base() (api.Schema, api.Layout) {
	s := api.Schema{Cols: []api.Column{{ID: 1, Name: "n", Type: api.Int}, {ID: 2, Name: "t", Type: api.Text}, {ID: 3, Name: "b", Type: api.Bool}}, Last: 3}
	return s, api.Layout{Parts: 1, Enc: []int{api.Delta, api.Dict, api.RLE}}
}

func made(t *testing.T, blocks, area int) (*desk.Desk, *dev.Dev) {
	t.Helper()
	d, _ := dev.New(blocks)
	s, l := base()
	if e := store.Make(d, area, s, l); e != api.OK {
		t.Fatal(e)
	}
	k, e := desk.Open(d, area)
	if e != api.OK {
		t.Fatal(e)
	}
	return k, d
}

func TestOpenErrors(t *testing.T) {
	empty, _ := dev.New(100)
	for i, x := range []struct {
		d    *dev.Dev
		area int
		want api.Errno
	}{{nil, 10, api.EArg}, {empty, 0, api.EArg}, {empty, 50, api.EArg}, {empty, 10, api.EForm}} {
		if k, e := desk.Open(x.d, x.area); k != nil || e != x.want {
			t.Errorf("%d: %v", i, e)
		}
	}
}

func TestAsk(t *testing.T) {
	k, _ := made(t, 500, 60)
	row := sample.List(sample.Int(1), sample.Text("a:b"), sample.Null())
	wide := sample.List(sample.Int(1), sample.Text("a"), sample.Text("b"), sample.Null())
	query := api.Request{Kind: api.AskQuery}
	split := api.Request{Kind: api.AskStart, Change: api.Change{Kind: api.Split, Col: 2, Name: "u", Sep: ':'}}
	step, undo := api.Request{Kind: api.AskStep}, api.Request{Kind: api.AskUndo}
	for i, x := range []struct {
		r    api.Request
		want api.Reply
	}{
		{query, api.Reply{}},
		{api.Request{Kind: api.AskInsert, Rows: []api.Row{row}}, api.Reply{}},
		{query, api.Reply{Rows: []api.Row{row}}},
		{api.Request{Kind: api.AskInsert}, api.Reply{Err: api.EArg}}, {api.Request{Kind: api.AskInsert, Rows: []api.Row{wide}}, api.Reply{Err: api.EType}},
		{api.Request{Kind: api.AskQuery, Query: api.Query{Limit: -1}}, api.Reply{Err: api.EArg}}, {api.Request{Kind: api.AskQuery, Query: api.Query{Cols: []string{"z"}}}, api.Reply{Err: api.ENone}},
		{step, api.Reply{Err: api.EIdle}}, {undo, api.Reply{Err: api.EIdle}},
		{api.Request{Kind: api.AskStart}, api.Reply{Err: api.EArg}}, {split, api.Reply{}}, {split, api.Reply{Err: api.EBusy}}, {undo, api.Reply{}}, {undo, api.Reply{Err: api.EIdle}}, {split, api.Reply{}},
		{query, api.Reply{Rows: []api.Row{row}}}, {api.Request{Kind: api.AskTidy}, api.Reply{}}, {step, api.Reply{Done: true}}, {query, api.Reply{Rows: []api.Row{wide}}},
		{api.Request{}, api.Reply{Err: api.EArg}}, {api.Request{Kind: 7}, api.Reply{Err: api.EArg}}, {api.Request{Kind: -1, Rows: []api.Row{wide}}, api.Reply{Err: api.EArg}},
	} {
		got := k.Ask(x.r)
		if got.Err != x.want.Err || got.Done != x.want.Done || !batch.SameRows(got.Rows, x.want.Rows) || got.Err != api.OK && got.Rows != nil {
			t.Errorf("%d: %v, not %v", i, got, x.want)
		}
	}
	if k.Store() == nil || k.Store().State().Version != 1 {
		t.Error("the store of it")
	}
}

func TestNil(t *testing.T) {
	var k *desk.Desk
	if got := k.Ask(api.Request{Kind: api.AskQuery}); !reflect.DeepEqual(got, api.Reply{Err: api.EArg}) || k.Store() != nil {
		t.Errorf("%v", got)
	}
	for kind := range 8 {
		if got := new(desk.Desk).Ask(api.Request{Kind: kind}); got.Err != api.EArg {
			t.Errorf("%d: of no store: %v", kind, got)
		}
	}
}

// TestAnswers: whatever is asked is answered as the plain table answers it; all that ought to be is true of the store at each step; a change ends with its step n + 1, and undone, all that it took is free.
func TestAnswers(t *testing.T) {
	full, changed, undone := 0, 0, 0
	for seed := range 80 {
		r := rand.New(rand.NewSource(int64(seed)))
		blocks, area := 130+r.Intn(500), 20+r.Intn(40)
		k, _ := made(t, blocks, area)
		s, l := base()
		table := &model.Table{S: s, L: l}
		steps, used := 0, 0
		for i := range 300 {
			ask := table.Request(r.Intn)
			was := k.Store().State()
			got := k.Ask(ask)
			if !table.Agrees(ask, got) {
				t.Fatalf("seed %d, %d: %v is answered by %v", seed, i, ask, got)
			}
			if i%4 == 0 || got.Done {
				if fault := model.Sound(k.Store()); fault != "" {
					t.Fatalf("seed %d, %d: %v: %s", seed, i, ask, fault)
				}
			}
			switch {
			case got.Err == api.EFull:
				full++
			case got.Err != api.OK:
				if !reflect.DeepEqual(k.Store().State(), was) {
					t.Fatalf("seed %d, %d: beside an error something has changed", seed, i)
				}
			case ask.Kind == api.AskStart:
				steps, used = len(was.Segs)+1, own(was)
			case ask.Kind == api.AskStep:
				if steps--; (steps == 0) != got.Done {
					t.Fatalf("seed %d, %d: %d steps are left: %v", seed, i, steps, got.Done)
				}
				if got.Done {
					changed++
				}
			case ask.Kind == api.AskUndo:
				if own(k.Store().State()) < used || k.Store().Used() != own(k.Store().State()) {
					t.Fatalf("seed %d, %d: what a change took is not free", seed, i)
				}
				undone++
			}
		}
	}
	if full < 20 || changed < 60 || undone < 60 {
		t.Errorf("%d times no room, %d changes, %d undone", full, changed, undone)
	}
}

// own is how many blocks the segments take that are looked through.
func own(s api.State) int {
	n := 0
	for _, i := range s.Segs {
		n += i.E.N
	}
	return n
}

// TestSame: the same steps tell the same, and leave the same blocks.
func TestSame(t *testing.T) {
	run := func() ([]api.Reply, []byte) {
		r := rand.New(rand.NewSource(77))
		k, d := made(t, 400, 40)
		s, l := base()
		table := &model.Table{S: s, L: l}
		var replies []api.Reply
		for range 300 {
			ask := table.Request(r.Intn)
			got := k.Ask(ask)
			table.Agrees(ask, got)
			replies = append(replies, got)
		}
		var all []byte
		for i := range d.Blocks() {
			b, _ := d.Read(i)
			all = append(all, b...)
		}
		return replies, all
	}
	a, x := run()
	b, y := run()
	if !reflect.DeepEqual(a, b) || string(x) != string(y) {
		t.Error("the same steps tell something else")
	}
}
