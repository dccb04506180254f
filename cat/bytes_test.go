package cat

import (
	"math/rand"
	"reflect"
	"strings"
	"testing"

	"rabbet/api"
	"rabbet/fresh"
	"rabbet/sample"
)

func records() []Record {
	all := api.Change{Kind: -1, Col: 1 << 40, Name: "name of more than twelve", Type: 9, Value: api.Value{Type: 77, I: -1 << 63, S: strings.Repeat("s", 300)}, Sep: 255, N: -5}
	return []Record{
		{Kind: All}, {Kind: All, State: idleState()}, {Kind: All, State: busyState()}, {Kind: Fresh}, {Kind: Fresh, Rows: []api.Row{nil, sample.List(sample.Int(1<<63-1), sample.Text("a\x00"), sample.Null(), api.Value{Type: 9, I: -1, S: "x"})}},
		{Kind: Flushed, N: 3}, {Kind: Flushed, N: 1 << 50, Items: []api.Item{item(1, 2), {}}, More: []api.Item{{E: api.Extent{At: -1, N: -2}, Bytes: 1 << 60, Rows: -3, Part: 4}}},
		{Kind: Begun, Change: widen}, {Kind: Begun, Change: all}, {Kind: Moved}, {Kind: Moved, Items: []api.Item{item(3, 4)}}, {Kind: Cut}, {Kind: Undone},
	}
}

// room is 16 for each number of x, the bytes of its texts, and 4 for each.
func room(x reflect.Value) int {
	n := 0
	switch x.Kind() {
	case reflect.Struct:
		for i := range x.NumField() {
			n += room(x.Field(i))
		}
	case reflect.Slice:
		for i := range x.Len() {
			n += room(x.Index(i))
		}
	case reflect.String:
		n = x.Len() + 4
	default:
		n = 16
	}
	return n
}

func TestPutTake(t *testing.T) {
	for i, r := range records() {
		b := Put(r)
		if len(b) == 0 || len(b) > room(reflect.ValueOf(r)) {
			t.Errorf("%d: %d bytes", i, len(b))
		}
		got, e := Take(b)
		if e != api.OK || string(Put(got)) != string(b) || got.Kind != r.Kind || !alike(got.State, r.State) || !reflect.DeepEqual(got.Change, r.Change) || len(got.Rows) != len(r.Rows) || !reflect.DeepEqual(got.Items, r.Items) || !reflect.DeepEqual(got.More, r.More) || got.N != r.N {
			t.Errorf("%d: %v: %v", i, e, got)
		}
		for k := range r.Rows {
			if len(got.Rows[k]) != len(r.Rows[k]) || len(r.Rows[k]) > 0 && !reflect.DeepEqual(got.Rows[k], r.Rows[k]) {
				t.Errorf("%d: row %d: %v", i, k, got.Rows[k])
			}
		}
		if r.Kind == All && len(r.State.Segs) > 0 && !reflect.DeepEqual(got.State, fresh.State(r.State)) {
			t.Errorf("%d: %v", i, got.State)
		}
	}
}

func TestUnlikeRecordsUnlikeBytes(t *testing.T) {
	seen := map[string]int{}
	for i, r := range records() {
		if k, ok := seen[string(Put(r))]; ok {
			t.Errorf("%d and %d have the same bytes", i, k)
		}
		seen[string(Put(r))] = i
	}
}

// TestShortRecords: what a commit writes is of few bytes.
func TestShortRecords(t *testing.T) {
	for kind, most := range map[int]int{Moved: 2 + 5*16, Cut: 16, Undone: 16} {
		r := Record{Kind: kind}
		if kind == Moved {
			r.Items = []api.Item{item(1<<20, 1<<20)}
		}
		if n := len(Put(r)); n == 0 || n > most {
			t.Errorf("kind %d: %d bytes", kind, n)
		}
	}
}

func TestPutOfNone(t *testing.T) {
	row := []api.Row{make(api.Row, 1)}
	items := []api.Item{item(1, 1)}
	for i, r := range []Record{
		{}, {Kind: 8}, {Kind: -1}, {Kind: All, N: 1}, {Kind: All, Rows: row}, {Kind: All, Items: items}, {Kind: All, More: items}, {Kind: All, Change: widen}, {Kind: Fresh, Rows: row, N: 1}, {Kind: Fresh, Rows: row, Items: items},
		{Kind: Flushed, N: 1, Rows: row}, {Kind: Flushed, N: 1, Change: widen}, {Kind: Begun, Change: widen, N: 1}, {Kind: Moved, More: items}, {Kind: Moved, N: 1}, {Kind: Cut, Items: items}, {Kind: Cut, N: 1}, {Kind: Undone, Change: widen},
		{Kind: Cut, State: api.State{Version: 1}}, {Kind: Cut, State: api.State{Busy: true}}, {Kind: Cut, State: api.State{Buffer: row}}, {Kind: Cut, State: api.State{Segs: items}}, {Kind: Cut, State: api.State{Next: items}}, {Kind: Cut, State: api.State{Done: 1}}, {Kind: Cut, State: api.State{Layout: api.Layout{Enc: []int{0}}}}, {Kind: Cut, State: api.State{Schema: api.Schema{Last: 1}}}, {Kind: Cut, State: api.State{NextS: api.Schema{Last: 1}}}, {Kind: Cut, State: api.State{Change: widen}},
	} {
		if b := Put(r); len(b) != 0 {
			t.Errorf("%d: %x", i, b)
		}
	}
	if len(Put(Record{Kind: Cut, Rows: []api.Row{}, State: api.State{Segs: []api.Item{}}})) == 0 {
		t.Error("nil and an empty list are one")
	}
}

func TestTakeOfNone(t *testing.T) {
	r := rand.New(rand.NewSource(8))
	for i, rec := range records() {
		b := Put(rec)
		for k := range b {
			if got, e := Take(b[:k]); e != api.EForm || !reflect.DeepEqual(got, Record{}) {
				t.Errorf("%d: cut off at %d: %v", i, k, got)
			}
		}
		if _, e := Take(append(append([]byte{}, b...), 0)); e != api.EForm {
			t.Errorf("%d: something behind it", i)
		}
		for range 3000 {
			c := append([]byte{}, b...)
			c[r.Intn(len(c))] ^= byte(1 << r.Intn(8))
			c[r.Intn(len(c))] = byte(r.Intn(256))
			got, e := Take(c)
			if e == api.OK && string(Put(got)) != string(c) || e != api.OK && (e != api.EForm || !reflect.DeepEqual(got, Record{})) {
				t.Fatalf("%d: %x is taken as %v", i, c, got)
			}
		}
	}
	for _, b := range []string{"", "\x00", "\x10", "\x04\xff\xff\xff\xff\xff\xff\xff\xff\xff\x01", "\xff"} {
		if _, e := Take([]byte(b)); e != api.EForm {
			t.Errorf("%x is taken", b)
		}
	}
}
