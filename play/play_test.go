package play_test

import (
	"math/rand"
	"reflect"
	"slices"
	"strings"
	"testing"

	"rabbet/api"
	"rabbet/batch"
	"rabbet/model"
	"rabbet/play"
	"rabbet/sample"
)

func ask(r api.Request) api.Step { return api.Step{Kind: api.StepAsk, Ask: r} }

var query = api.Query{
	Cols:  []string{"n", ""},
	Where: []api.Test{{Name: "t", Op: 5, Value: sample.Text("x"), Or: true}, {Name: "n", Op: 255, Not: true}, {Op: 1, Value: sample.Small(-1), Or: true, Not: true}},
	Aggs:  []api.Agg{{Op: 1}, {Op: 2, Name: "n"}},
	Order: []api.Key{{Name: "n", Down: true}, {Name: "t"}},
	Limit: 258,
}

// said is steps and their bytes.
var said = []struct {
	s api.Step
	b string
}{
	{api.Step{Kind: api.StepOpen}, "\x04"},
	{api.Step{Kind: api.StepStop, N: 258}, "\x03\x01\x02"}, {api.Step{Kind: api.StepStop}, "\x03\x00\x00"}, {api.Step{Kind: api.StepStop, N: 65535}, "\x03\xff\xff"},
	{api.Step{Kind: api.StepCrash, Torn: -1}, "\x02\x00\x00\x00"}, {api.Step{Kind: api.StepCrash, Keep: []byte{7, 0}, Torn: 254, At: 255}, "\x02\x02\x07\x00\xff\xff"}, {api.Step{Kind: api.StepCrash, At: 9}, "\x02\x00\x01\x09"},
	{ask(api.Request{Kind: api.AskInsert}), "\x01\x01\x00"},
	{ask(api.Request{Kind: api.AskInsert, Rows: []api.Row{sample.List(sample.Bool(1), sample.Null()), nil, sample.Texts("ab")}}), "\x01\x01\x03\x02\x03\x01\x00\x00\x01\x04\x02ab"},
	{ask(api.Request{Kind: api.AskQuery}), "\x01\x02\x00\x00\x00\x00\x00\x00"},
	{ask(api.Request{Kind: api.AskQuery, Query: query}), "\x01\x02\x02\x01n\x00\x03\x01t\x05\x04\x01x\x01\x01n\xff\x00\x02\x00\x01\x01\xff\xff\x03\x02\x01\x00\x02\x01n\x02\x01n\x01\x01t\x00\x01\x02"},
	{ask(api.Request{Kind: api.AskStart, Change: api.Change{Kind: 5, Col: 258, Name: "u", Type: 4, Value: sample.Bool(0), Sep: ':', N: 3}}), "\x01\x03\x05\x01\x02\x01u\x04\x03\x00:\x00\x03"},
	{ask(api.Request{Kind: api.AskUndo}), "\x01\x04"}, {ask(api.Request{Kind: api.AskStep}), "\x01\x05"}, {ask(api.Request{Kind: api.AskTidy}), "\x01\x06"}, {ask(api.Request{}), "\x01\x00"}, {ask(api.Request{Kind: 255}), "\x01\xff"},
}

func same(a, b []api.Step) bool {
	return slices.EqualFunc(a, b, func(x, y api.Step) bool {
		rows := batch.SameRows(x.Ask.Rows, y.Ask.Rows)
		x.Ask.Rows, y.Ask.Rows = nil, nil
		keep := slices.Equal(x.Keep, y.Keep)
		x.Keep, y.Keep = nil, nil
		return rows && keep && reflect.DeepEqual(x, y)
	})
}

func TestSaid(t *testing.T) {
	var all []api.Step
	bytes := ""
	for i, x := range said {
		if got := play.Encode(x.s); string(got) != x.b {
			t.Errorf("%d: %x", i, got)
		}
		if got := play.Decode([]byte(x.b)); !same(got, []api.Step{x.s}) {
			t.Errorf("%d: %v", i, got)
		}
		for k := range x.b {
			if got := play.Decode([]byte(x.b[:k])); len(got) != 0 {
				t.Errorf("%d: cut off at %d: %v", i, k, got)
			}
			if got := play.Decode([]byte("\x04" + x.b[:k])); len(got) != 1 {
				t.Errorf("%d: cut off at %d, behind another: %v", i, k, got)
			}
		}
		all, bytes = append(all, x.s), bytes+x.b
	}
	if string(play.Encode(all...)) != bytes || !same(play.Decode([]byte(bytes)), all) {
		t.Error("one behind the other")
	}
	if len(play.Encode()) != 0 || len(play.Decode(nil)) != 0 {
		t.Error("of nothing")
	}
}

// TestOtherBytes: what is told modulo something, passed over, or ends.
func TestOtherBytes(t *testing.T) {
	open, undo := api.Step{Kind: api.StepOpen}, ask(api.Request{Kind: api.AskUndo})
	for i, x := range []struct {
		b    string
		want []api.Step
	}{
		{"\x00\x05\x0a\xff", nil}, {"\x00\x04\xfa\x09", []api.Step{open, open}}, {"\xfb\x04", []api.Step{undo}}, {"\x08\x00\x07", []api.Step{{Kind: api.StepStop, N: 7}}},
		{"\x01\x01\x0b\x09\x00", []api.Step{ask(api.Request{Kind: api.AskInsert, Rows: []api.Row{{sample.Null()}}})}},
		{"\x01\x02\x08\x0a\x06\x05\x00\x00", []api.Step{ask(api.Request{Kind: api.AskQuery})}},
		{"\x01\x02\x09\x01a\x0b\x00\x00\x00\x07\x07\x02\x00\x06\x00\x02\x00\x00", []api.Step{ask(api.Request{Kind: api.AskQuery, Query: api.Query{Cols: []string{"a"}, Where: []api.Test{{Or: true, Not: true}}, Aggs: []api.Agg{{Op: 2}}, Order: []api.Key{{}}}})}},
		{"\x01\x02\x00\x00\x00\x01\x00\xff\x00\x00", []api.Step{ask(api.Request{Kind: api.AskQuery, Query: api.Query{Order: []api.Key{{Down: true}}}})}},
		{"\x04\x01\x01\x01\x01\x05\x04\x04", []api.Step{open}}, {"\x04\x01\x01\x01\x01\x03\x02\x04", []api.Step{open}}, {"\x01\x03\x01\x00\x00\x00\x00\x07\x00\x00\x00\x04", nil}, {"\x04\x03\x00", []api.Step{open}}, {"\x04\x01", []api.Step{open}},
	} {
		if got := play.Decode([]byte(x.b)); !same(got, x.want) {
			t.Errorf("%d: %v", i, got)
		}
	}
}

// TestLeftOut: a step that no bytes say.
func TestLeftOut(t *testing.T) {
	long := strings.Repeat("x", 256)
	undo := api.Request{Kind: api.AskUndo}
	change := func(c api.Change) api.Step {
		return ask(api.Request{Kind: api.AskStart, Change: c})
	}
	asked := func(q api.Query) api.Step { return ask(api.Request{Kind: api.AskQuery, Query: q}) }
	insert := func(rows ...api.Row) api.Step {
		return ask(api.Request{Kind: api.AskInsert, Rows: rows})
	}
	for i, s := range []api.Step{
		{}, {Kind: 5}, {Kind: -1}, {Kind: 9}, {Kind: api.StepOpen, N: 1}, {Kind: api.StepOpen, At: 1}, {Kind: api.StepOpen, Ask: undo}, {Kind: api.StepOpen, Keep: []byte{0}}, {Kind: api.StepOpen, Torn: -1},
		{Kind: api.StepStop, N: -1}, {Kind: api.StepStop, N: 65536}, {Kind: api.StepStop, Torn: 1}, {Kind: api.StepCrash, Torn: -2}, {Kind: api.StepCrash, Torn: 255}, {Kind: api.StepCrash, Torn: 1<<63 - 1}, {Kind: api.StepCrash, At: -1}, {Kind: api.StepCrash, At: 256}, {Kind: api.StepCrash, Keep: []byte(long)}, {Kind: api.StepCrash, N: 1}, {Kind: api.StepCrash, Ask: undo},
		ask(api.Request{Kind: -1}), ask(api.Request{Kind: 256}), {Kind: api.StepAsk, Ask: undo, N: 1}, {Kind: api.StepAsk, Ask: undo, Keep: []byte{0}},
		ask(api.Request{Kind: api.AskUndo, Rows: []api.Row{nil}}), ask(api.Request{Kind: api.AskInsert, Query: api.Query{Limit: 1}}), ask(api.Request{Kind: api.AskQuery, Rows: []api.Row{nil}}), ask(api.Request{Kind: api.AskQuery, Change: api.Change{N: 1}}), ask(api.Request{Kind: api.AskStart, Query: query}), ask(api.Request{Kind: 7, Change: api.Change{Kind: 1}}),
		{Kind: api.StepAsk, Ask: api.Request{Kind: api.AskUndo, Query: api.Query{Cols: []string{""}}}}, {Kind: api.StepAsk, Ask: api.Request{Kind: api.AskUndo, Query: api.Query{Where: make([]api.Test, 1)}}}, {Kind: api.StepAsk, Ask: api.Request{Kind: api.AskUndo, Query: api.Query{Aggs: make([]api.Agg, 1)}}}, {Kind: api.StepAsk, Ask: api.Request{Kind: api.AskUndo, Query: api.Query{Order: make([]api.Key, 1)}}}, {Kind: api.StepAsk, Ask: api.Request{Kind: api.AskUndo, Query: api.Query{Limit: 1}}},
		insert(make([]api.Row, 10)...), insert(make(api.Row, 8)), insert(sample.List(api.Value{I: 1})), insert(sample.Texts(strings.Repeat("x", 21))),
		asked(api.Query{Cols: make([]string, 8)}), asked(api.Query{Cols: []string{long}}), asked(api.Query{Where: make([]api.Test, 10)}), asked(api.Query{Aggs: make([]api.Agg, 6)}), asked(api.Query{Order: make([]api.Key, 5)}), asked(api.Query{Limit: -1}), asked(api.Query{Limit: 65536}),
		asked(api.Query{Where: []api.Test{{Op: 256}}}), asked(api.Query{Where: []api.Test{{Op: -1}}}), asked(api.Query{Where: []api.Test{{Value: api.Value{Type: 7}}}}), asked(api.Query{Aggs: []api.Agg{{Op: 300}}}), asked(api.Query{Order: []api.Key{{Name: long}}}),
		change(api.Change{Kind: 256}), change(api.Change{Kind: -1}), change(api.Change{Col: -1}), change(api.Change{Col: 65536}), change(api.Change{Name: long}), change(api.Change{Type: 256}), change(api.Change{Value: api.Value{S: "a"}}), change(api.Change{N: -1}), change(api.Change{N: 65536}),
	} {
		open := api.Step{Kind: api.StepOpen}
		if got := play.Encode(open, s, open); string(got) != "\x04\x04" {
			t.Errorf("%d: %x", i, got)
		}
	}
	most := []api.Step{{Kind: api.StepCrash, Keep: []byte(long[:255]), Torn: -1}, insert(make([]api.Row, 9)...), insert(make(api.Row, 7)), asked(api.Query{Cols: make([]string, 7), Where: make([]api.Test, 9), Aggs: make([]api.Agg, 5), Order: make([]api.Key, 4), Limit: 65535}), change(api.Change{Kind: 255, Col: 65535, Name: long[:255], Type: 255, N: 65535, Sep: 255})}
	if got := play.Decode(play.Encode(most...)); !same(got, most) {
		t.Errorf("as much as may be said: %v", got)
	}
}

// TestWhateverBytes: what bytes say is said by the bytes that are made of it.
func TestWhateverBytes(t *testing.T) {
	r := rand.New(rand.NewSource(11))
	steps := 0
	for range 60000 {
		b := make([]byte, r.Intn(60))
		for i := range b {
			b[i] = byte(r.Intn(256))
			if r.Intn(3) > 0 {
				b[i] = byte(r.Intn(6))
			}
		}
		l := play.Decode(b)
		steps += len(l)
		if again := play.Decode(play.Encode(l...)); !same(again, l) {
			t.Fatalf("%x: %v, %v", b, l, again)
		}
	}
	if steps < 60000 {
		t.Errorf("only %d steps", steps)
	}
}

func table() (api.Schema, api.Layout) {
	s := api.Schema{Cols: []api.Column{{ID: 1, Name: "n", Type: api.Int}, {ID: 2, Name: "t", Type: api.Text}}, Last: 2}
	return s, api.Layout{Parts: 1, Enc: []int{api.Delta, api.Dict}}
}

func TestRun(t *testing.T) {
	s, l := table()
	row := sample.List(sample.Int(1), sample.Text("a"))
	all := ask(api.Request{Kind: api.AskQuery})
	steps := []api.Step{all, ask(api.Request{Kind: api.AskInsert, Rows: []api.Row{row}}), {Kind: api.StepStop}, ask(api.Request{Kind: api.AskInsert, Rows: []api.Row{row}}), {Kind: api.StepCrash, Torn: -1}, all, {Kind: 7}, ask(api.Request{Kind: api.AskStep}), {Kind: api.StepOpen}, all}
	tr, told, e := play.Run(300, 30, s, l, steps...)
	if e != api.OK || tr == nil || tr.Desk() == nil || len(told) != len(steps) {
		t.Fatalf("%v: %v", e, told)
	}
	for i, want := range []api.Reply{{}, {}, {}, {}, {}, {Rows: []api.Row{row}}, {Err: api.EArg}, {Err: api.EIdle}, {}, {Rows: []api.Row{row}}} {
		if told[i].Err != want.Err || told[i].Done || !batch.SameRows(told[i].Rows, want.Rows) {
			t.Errorf("%d: %v", i, told[i])
		}
	}
	if tr, told, e := play.Run(300, 30, s, l); e != api.OK || tr == nil || len(told) != 0 {
		t.Errorf("no steps: %v", e)
	}
	for i, x := range []struct {
		blocks, area int
		s            api.Schema
	}{{0, 30, s}, {300, 0, s}, {300, 30, api.Schema{}}} {
		if tr, told, e := play.Run(x.blocks, x.area, x.s, l, all); e != api.EArg || tr != nil || told != nil {
			t.Errorf("%d: %v", i, e)
		}
	}
}

// TestRunsAreSame: a run that was put into bytes tells the same, and ends whatever the bytes are.
func TestRunsAreSame(t *testing.T) {
	r := rand.New(rand.NewSource(12))
	for range 60 {
		s, l := table()
		m := &model.Table{S: s, L: l}
		var steps []api.Step
		for range 80 {
			switch r.Intn(12) {
			case 0:
				steps = append(steps, api.Step{Kind: api.StepCrash, Keep: []byte{byte(r.Intn(256))}, Torn: r.Intn(8) - 1, At: r.Intn(130)})
			case 1:
				steps = append(steps, api.Step{Kind: api.StepStop, N: r.Intn(60)})
			default:
				req := m.Request(r.Intn)
				m.Ask(req, r.Intn(3) == 0)
				steps = append(steps, ask(req))
			}
		}
		said := play.Decode(play.Encode(steps...))
		if !same(said, steps) {
			t.Fatalf("%v", said)
		}
		_, a, _ := play.Run(300, 30, s, l, steps...)
		_, b, e := play.Run(300, 30, s, l, said...)
		if e != api.OK || !reflect.DeepEqual(a, b) {
			t.Fatalf("%v", e)
		}
	}
}
