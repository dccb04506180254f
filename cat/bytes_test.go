package cat_test

import (
	"math/rand"
	"reflect"
	"strings"
	"testing"

	"rabbet/api"
	"rabbet/cat"
	"rabbet/fresh"
	"rabbet/sample"
)

func records() []cat.Record {
	all := api.Change{Kind: -1, Col: 1 << 40, Name: "name of more than twelve", Type: 9, Value: api.Value{Type: 77, I: -1 << 63, S: strings.Repeat("s", 300)}, Sep: 255, N: -5}
	return []cat.Record{
		{Kind: cat.All}, {Kind: cat.All, State: idleState()}, {Kind: cat.All, State: busyState()}, {Kind: cat.Fresh}, {Kind: cat.Fresh, Rows: []api.Row{nil, sample.List(sample.Int(1<<63-1), sample.Text("a\x00"), sample.Null(), api.Value{Type: 9, I: -1, S: "x"})}},
		{Kind: cat.Flushed, N: 3}, {Kind: cat.Flushed, N: 1 << 50, Items: []api.Item{item(1, 2), {}}, More: []api.Item{{E: api.Extent{At: -1, N: -2}, Bytes: 1 << 60, Rows: -3, Part: 4}}},
		{Kind: cat.Begun, Change: widen}, {Kind: cat.Begun, Change: all}, {Kind: cat.Moved}, {Kind: cat.Moved, Items: []api.Item{item(3, 4)}}, {Kind: cat.Cut}, {Kind: cat.Undone},
	}
}

// room is 16 for each number of x, the bytes of its texts, and 4 for each.
func room(x reflect.Value) int {
	n := 0
	switch x.Kind() {
	case reflect.Struct:
		for i := range x.NumField() {
			n += room(x.Field(i))
		}
	case reflect.Slice:
		for i := range x.Len() {
			n += room(x.Index(i))
		}
	case reflect.String:
		n = x.Len() + 4
	default:
		n = 16
	}
	return n
}

func TestPutTake(t *testing.T) {
	for i, r := range records() {
		b := cat.Put(r)
		if len(b) == 0 || len(b) > room(reflect.ValueOf(r)) {
			t.Errorf("%d: %d bytes", i, len(b))
		}
		got, e := cat.Take(b)
		if e != api.OK || string(cat.Put(got)) != string(b) || got.Kind != r.Kind || !alike(got.State, r.State) || !reflect.DeepEqual(got.Change, r.Change) || len(got.Rows) != len(r.Rows) || !reflect.DeepEqual(got.Items, r.Items) || !reflect.DeepEqual(got.More, r.More) || got.N != r.N {
			t.Errorf("%d: %v: %v", i, e, got)
		}
		for k := range r.Rows {
			if len(got.Rows[k]) != len(r.Rows[k]) || len(r.Rows[k]) > 0 && !reflect.DeepEqual(got.Rows[k], r.Rows[k]) {
				t.Errorf("%d: row %d: %v", i, k, got.Rows[k])
			}
		}
		if r.Kind == cat.All && len(r.State.Segs) > 0 && !reflect.DeepEqual(got.State, fresh.State(r.State)) {
			t.Errorf("%d: %v", i, got.State)
		}
	}
}

func TestUnlikeRecordsUnlikeBytes(t *testing.T) {
	seen := map[string]int{}
	for i, r := range records() {
		if k, ok := seen[string(cat.Put(r))]; ok {
			t.Errorf("%d and %d have the same bytes", i, k)
		}
		seen[string(cat.Put(r))] = i
	}
}

// TestShortRecords: what a commit writes is of few bytes.
func TestShortRecords(t *testing.T) {
	for kind, most := range map[int]int{cat.Moved: 2 + 5*16, cat.Cut: 16, cat.Undone: 16} {
		r := cat.Record{Kind: kind}
		if kind == cat.Moved {
			r.Items = []api.Item{item(1<<20, 1<<20)}
		}
		if n := len(cat.Put(r)); n == 0 || n > most {
			t.Errorf("kind %d: %d bytes", kind, n)
		}
	}
}

func TestPutOfNone(t *testing.T) {
	row := []api.Row{make(api.Row, 1)}
	items := []api.Item{item(1, 1)}
	for i, r := range []cat.Record{
		{}, {Kind: 8}, {Kind: -1}, {Kind: cat.All, N: 1}, {Kind: cat.All, Rows: row}, {Kind: cat.All, Items: items}, {Kind: cat.All, More: items}, {Kind: cat.All, Change: widen}, {Kind: cat.Fresh, Rows: row, N: 1}, {Kind: cat.Fresh, Rows: row, Items: items},
		{Kind: cat.Flushed, N: 1, Rows: row}, {Kind: cat.Flushed, N: 1, Change: widen}, {Kind: cat.Begun, Change: widen, N: 1}, {Kind: cat.Moved, More: items}, {Kind: cat.Moved, N: 1}, {Kind: cat.Cut, Items: items}, {Kind: cat.Cut, N: 1}, {Kind: cat.Undone, Change: widen},
		{Kind: cat.Cut, State: api.State{Version: 1}}, {Kind: cat.Cut, State: api.State{Busy: true}}, {Kind: cat.Cut, State: api.State{Buffer: row}}, {Kind: cat.Cut, State: api.State{Segs: items}}, {Kind: cat.Cut, State: api.State{Next: items}}, {Kind: cat.Cut, State: api.State{Done: 1}}, {Kind: cat.Cut, State: api.State{Layout: api.Layout{Enc: []int{0}}}}, {Kind: cat.Cut, State: api.State{Schema: api.Schema{Last: 1}}}, {Kind: cat.Cut, State: api.State{NextS: api.Schema{Last: 1}}}, {Kind: cat.Cut, State: api.State{Change: widen}},
	} {
		if b := cat.Put(r); len(b) != 0 {
			t.Errorf("%d: %x", i, b)
		}
	}
	if len(cat.Put(cat.Record{Kind: cat.Cut, Rows: []api.Row{}, State: api.State{Segs: []api.Item{}}})) == 0 {
		t.Error("nil and an empty list are one")
	}
}

// exact tells whether b is not taken, or is taken as what is put so.
func exact(b []byte) bool {
	got, e := cat.Take(b)
	if e == api.OK {
		return string(cat.Put(got)) == string(b)
	}
	return e == api.EForm && reflect.DeepEqual(got, cat.Record{})
}

func TestTakeOfNone(t *testing.T) {
	r := rand.New(rand.NewSource(8))
	for i, rec := range records() {
		b := cat.Put(rec)
		for k := range b {
			if !exact(b[:k]) {
				t.Errorf("%d: cut off at %d", i, k)
			}
		}
		for range 3000 {
			c := append([]byte{}, b...)
			if !exact(append(c, byte(r.Intn(256)))) {
				t.Fatalf("%d: something behind it", i)
			}
			c[r.Intn(len(c))] ^= byte(1 << r.Intn(8))
			c[r.Intn(len(c))] = byte(r.Intn(256))
			if !exact(c) {
				t.Fatalf("%d: %x", i, c)
			}
		}
	}
	for range 100000 {
		b := make([]byte, r.Intn(12))
		for i := range b {
			b[i] = byte(r.Intn(1 << r.Intn(9)))
		}
		if !exact(b) {
			t.Fatalf("%x", b)
		}
	}
	if _, e := cat.Take(nil); e != api.EForm {
		t.Error("no bytes")
	}
}
