package trial_test

import (
	"bytes"
	"math/rand"
	"reflect"
	"testing"

	"rabbet/api"
	"rabbet/batch"
	"rabbet/model"
	"rabbet/sample"
	"rabbet/store"
	"rabbet/trial"
)

func base() (api.Schema, api.Layout) {
	s := api.Schema{Cols: []api.Column{{ID: 1, Name: "n", Type: api.Int}, {ID: 2, Name: "t", Type: api.Text}}, Last: 2}
	return s, api.Layout{SortBy: 1, PartBy: 2, Parts: 2, Enc: []int{api.Delta, api.Dict}}
}

func made(t *testing.T, blocks, area int) *trial.Trial {
	t.Helper()
	s, l := base()
	tr, e := trial.New(blocks, area, s, l)
	if e != api.OK {
		t.Fatal(e)
	}
	return tr
}

func ask(r api.Request) api.Step { return api.Step{Kind: api.StepAsk, Ask: r} }

func all(t *testing.T, tr *trial.Trial) []api.Row {
	t.Helper()
	got := tr.Do(ask(api.Request{Kind: api.AskQuery}))
	if got.Err != api.OK {
		t.Fatal(got.Err)
	}
	return got.Rows
}

func TestNewErrors(t *testing.T) {
	s, l := base()
	for i, x := range []struct {
		blocks, area int
		s            api.Schema
		l            api.Layout
		want         api.Errno
	}{{100, 20, s, l, api.OK}, {0, 20, s, l, api.EArg}, {4001, 20, s, l, api.EArg}, {100, 0, s, l, api.EArg}, {100, 50, s, l, api.EArg}, {100, 20, api.Schema{}, l, api.EArg}, {100, 20, s, api.Layout{}, api.EArg}} {
		tr, e := trial.New(x.blocks, x.area, x.s, x.l)
		if e != x.want || (tr != nil) != (e == api.OK) {
			t.Errorf("%d: %v", i, e)
		}
	}
}

func TestSteps(t *testing.T) {
	tr := made(t, 200, 30)
	row := func(n int64) api.Row { return sample.List(sample.Int(n), sample.Text("a")) }
	insert := func(n int64) api.Step {
		return ask(api.Request{Kind: api.AskInsert, Rows: []api.Row{row(n)}})
	}
	if got := tr.Do(insert(1)); !reflect.DeepEqual(got, api.Reply{}) {
		t.Errorf("%v", got)
	}
	desk := tr.Desk()
	if got := tr.Do(api.Step{Kind: api.StepOpen}); !reflect.DeepEqual(got, api.Reply{}) || tr.Desk() == desk {
		t.Errorf("opened anew: %v", got)
	}
	if !batch.SameBag(all(t, tr), []api.Row{row(1)}) {
		t.Error("all is there")
	}
	tr.Do(api.Step{Kind: api.StepStop, N: 0})
	if !tr.Dev().Stopped() {
		t.Error("it has stopped")
	}
	tr.Do(insert(2))
	if got := tr.Do(api.Step{Kind: api.StepCrash, Torn: -1}); !reflect.DeepEqual(got, api.Reply{}) || tr.Dev().Stopped() {
		t.Errorf("%v", got)
	}
	if !batch.SameBag(all(t, tr), []api.Row{row(1)}) {
		t.Error("what was not written is not there")
	}
	tr.Do(insert(3))
	tr.Do(api.Step{Kind: api.StepCrash, Torn: -1})
	if !batch.SameBag(all(t, tr), []api.Row{row(1), row(3)}) {
		t.Error("what was answered is there")
	}
	for _, kind := range []int{0, 5, -1} {
		if got := tr.Do(api.Step{Kind: kind}); !reflect.DeepEqual(got, api.Reply{Err: api.EArg}) {
			t.Errorf("kind %d: %v", kind, got)
		}
	}
	if got := tr.Do(api.Step{Kind: api.StepStop, N: 1}); !reflect.DeepEqual(got, api.Reply{}) {
		t.Errorf("%v", got)
	}
}

// TestCrashIsDone: keep, torn and at are those of the device.
func TestCrashIsDone(t *testing.T) {
	tr := made(t, 200, 30)
	block := func(x byte) []byte { return bytes.Repeat([]byte{x}, api.Size) }
	for i := range 3 {
		tr.Dev().Write(190+i, block(byte(i+1)))
	}
	tr.Do(api.Step{Kind: api.StepCrash, Keep: []byte{1}, Torn: 2, At: 5})
	for i, want := range [][]byte{block(1), block(0), append(block(3)[:5], block(0)[5:]...)} {
		if b, _ := tr.Dev().Read(190 + i); !bytes.Equal(b, want) {
			t.Errorf("block %d: %x", i, b)
		}
	}
}

func TestBroken(t *testing.T) {
	for _, kind := range []int{api.StepOpen, api.StepCrash} {
		tr := made(t, 200, 30)
		for i := range 2 {
			tr.Dev().Write(i, make([]byte, api.Size))
		}
		tr.Dev().Flush()
		if got := tr.Do(api.Step{Kind: kind, Torn: -1}); !reflect.DeepEqual(got, api.Reply{Err: api.EForm}) || tr.Desk() != nil {
			t.Errorf("kind %d: %v", kind, got)
		}
		if got := tr.Do(ask(api.Request{Kind: api.AskQuery})); !reflect.DeepEqual(got, api.Reply{Err: api.EBroken}) {
			t.Errorf("kind %d: %v", kind, got)
		}
		if got := tr.Do(api.Step{Kind: api.StepStop, N: -1}); got.Err != api.OK {
			t.Errorf("kind %d: %v", kind, got)
		}
		s, l := base()
		store.Make(tr.Dev(), 30, s, l)
		if got := tr.Do(api.Step{Kind: kind, Torn: -1}); got.Err != api.OK || len(all(t, tr)) != 0 {
			t.Errorf("kind %d: it may be opened again: %v", kind, got)
		}
	}
}

func TestNil(t *testing.T) {
	var tr *trial.Trial
	if got := tr.Do(api.Step{Kind: api.StepOpen}); !reflect.DeepEqual(got, api.Reply{Err: api.EArg}) || tr.Dev() != nil || tr.Desk() != nil {
		t.Errorf("%v", got)
	}
}

// TestLasting: behind any crash, at any write, whatever survives, the table opens, and is what the last answered request left, or what the one in flight would have; opened again it is the same.
func TestLasting(t *testing.T) {
	crashes := 0
	for seed := range 200 {
		r := rand.New(rand.NewSource(int64(seed)))
		tr := made(t, 100+r.Intn(200), 12+r.Intn(20))
		s, l := base()
		table := &model.Table{S: s, L: l}
		for range 12 {
			crashes += lasts(t, seed, tr, table, r)
		}
	}
	if crashes < 500 {
		t.Errorf("only %d crashes in a request", crashes)
	}
}

// lasts asks on until the device stops, crashes it, and tells whether that was in a request.
func lasts(t *testing.T, seed int, tr *trial.Trial, table *model.Table, r *rand.Rand) int {
	t.Helper()
	tr.Do(api.Step{Kind: api.StepStop, N: r.Intn(90)})
	in := 0
	next := table.Copy()
	for range 30 {
		next = table.Copy()
		req := table.Request(r.Intn)
		got := tr.Do(ask(req))
		if tr.Dev().Stopped() {
			next.Ask(req, got.Done)
			in = 1
			break
		}
		if !table.Agrees(req, got) {
			t.Fatalf("seed %d: %v is answered by %v", seed, req, got)
		}
		next = table.Copy()
	}
	crash(tr, r)
	rows, busy := all(t, tr), tr.Desk().Store().State().Busy
	was := is(table, rows, tr)
	if !was && !is(&next, rows, tr) {
		t.Fatalf("seed %d: %d rows (busy: %v) are neither what was, nor what would have been", seed, len(rows), busy)
	}
	if !was {
		*table = next
	}
	if fault := model.Sound(tr.Desk().Store()); fault != "" {
		t.Fatalf("seed %d: %s", seed, fault)
	}
	st := tr.Desk().Store().State()
	if got := tr.Do(api.Step{Kind: api.StepOpen}); got.Err != api.OK || !reflect.DeepEqual(tr.Desk().Store().State(), st) {
		t.Fatalf("seed %d: opened again it is something else: %v", seed, got)
	}
	return in
}

// crash crashes the device, and once more while it is opened.
func crash(tr *trial.Trial, r *rand.Rand) {
	some := func() api.Step {
		keep := make([]byte, r.Intn(12))
		r.Read(keep)
		return api.Step{Kind: api.StepCrash, Keep: keep, Torn: r.Intn(40) - 1, At: r.Intn(130)}
	}
	first := some()
	if r.Intn(2) == 0 {
		tr.Dev().Crash(first.Keep, first.Torn, first.At)
		tr.Dev().Stop(r.Intn(80))
		tr.Do(api.Step{Kind: api.StepOpen})
	}
	tr.Do(some())
}

// is tells whether the table has these rows, and the same schema and change.
func is(table *model.Table, rows []api.Row, tr *trial.Trial) bool {
	st := tr.Desk().Store().State()
	return batch.SameBag(rows, table.Rows) && st.Busy == table.Busy && st.Change == table.Change && st.Version == table.Version &&
		reflect.DeepEqual(st.Schema, table.S) && reflect.DeepEqual(st.Layout, table.L)
}

// TestCrashAtEachWrite: of a run with a change, at each write, with each of these ways to survive.
func TestCrashAtEachWrite(t *testing.T) {
	r := rand.New(rand.NewSource(5))
	s, l := base()
	table := &model.Table{S: s, L: l}
	var tables []model.Table
	whole := made(t, 150, 16)
	for range 150 {
		req := table.Request(r.Intn)
		if !table.Agrees(req, whole.Do(ask(req))) {
			t.Fatal("it does not agree")
		}
		tables = append(tables, table.Copy())
	}
	last := whole.Dev().Writes()
	first := made(t, 150, 16).Dev().Writes()
	if last-first < 200 || table.Version == 0 || len(whole.Desk().Store().State().Segs) == 0 {
		t.Error("too little is done")
	}
	for stop := 0; first+stop < last; stop++ {
		for _, c := range []api.Step{{Torn: -1}, {Keep: bytes.Repeat([]byte{0xff}, 20), Torn: -1}, {Keep: []byte{0x55, 0x55, 0x55}, Torn: 0, At: 64}, {Keep: bytes.Repeat([]byte{0xfe}, 20), Torn: 1, At: 9}} {
			tr := made(t, 150, 16)
			tr.Do(api.Step{Kind: api.StepStop, N: stop})
			r := rand.New(rand.NewSource(5))
			s, l := base()
			table := &model.Table{S: s, L: l}
			k := 0
			for ; k < len(tables); k++ {
				req := table.Request(r.Intn)
				got := tr.Do(ask(req))
				if tr.Dev().Stopped() {
					break
				}
				table.Agrees(req, got)
			}
			c.Kind = api.StepCrash
			if got := tr.Do(c); got.Err != api.OK {
				t.Fatalf("stopped behind %d: %v", stop, got)
			}
			if rows := all(t, tr); !is(table, rows, tr) && !is(&tables[min(k, len(tables)-1)], rows, tr) {
				t.Fatalf("stopped behind %d, in request %d: neither what was, nor what would have been", stop, k)
			}
		}
	}
}
