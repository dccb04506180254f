package fresh

import (
	"reflect"
	"testing"

	"rabbet/api"
	"rabbet/sample"
)

func state() api.State {
	s := api.Schema{Cols: []api.Column{{ID: 1, Name: "a", Type: api.Int}}, Last: 1}
	l := api.Layout{Parts: 1, Enc: []int{api.Plain}}
	items := []api.Item{{E: api.Extent{At: 1, N: 1}, Bytes: 1, Rows: 1}}
	return api.State{Version: 1, Schema: s, Layout: l, Buffer: []api.Row{sample.Ints(1)}, Segs: items, Busy: true, NextS: Schema(s), NextL: Layout(l), Next: append([]api.Item{}, items...), Todo: 1}
}

func TestState(t *testing.T) {
	s := state()
	c := State(s)
	if !reflect.DeepEqual(c, s) {
		t.Fatalf("%v", c)
	}
	c.Schema.Cols[0].ID, c.NextS.Cols[0].ID, c.Layout.Enc[0], c.NextL.Enc[0] = 9, 9, 9, 9
	c.Buffer[0][0], c.Segs[0].Rows, c.Next[0].Rows = sample.Null(), 9, 9
	if !reflect.DeepEqual(s, state()) {
		t.Errorf("a copy shares memory: %v", s)
	}
}
