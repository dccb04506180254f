package schema_test

import (
	"math/rand"
	"reflect"
	"testing"

	"rabbet/api"
	"rabbet/sample"
	"rabbet/schema"
)

// text is a schema and a layout in few words.
func text(s api.Schema, l api.Layout) string {
	out := ""
	for i, c := range s.Cols {
		out += c.Name + ":" + string(rune('0'+c.ID)) + string(rune('0'+c.Type)) + string(rune('0'+l.Enc[i])) + " "
	}
	return out + string(rune('0'+s.Last)) + " " + string(rune('0'+l.SortBy)) + string(rune('0'+l.PartBy)) + string(rune('0'+l.Parts))
}

func TestApply(t *testing.T) {
	for _, x := range []struct {
		c    api.Change
		want string
	}{
		{api.Change{Kind: api.Add, Name: "f", Type: api.Small, Value: sample.Small(3)}, "a:325 b:143 c:432 d:614 e:541 f:811 8 352"},
		{api.Change{Kind: api.Add, Name: "f", Type: api.Text}, "a:325 b:143 c:432 d:614 e:541 f:841 8 352"},
		{api.Change{Kind: api.Drop, Col: 1}, "a:325 c:432 d:614 e:541 7 352"},
		{api.Change{Kind: api.Rename, Col: 1, Name: "z"}, "a:325 z:143 c:432 d:614 e:541 7 352"},
		{api.Change{Kind: api.Rename, Col: 1, Name: "b"}, "a:325 b:143 c:432 d:614 e:541 7 352"},
		{api.Change{Kind: api.Widen, Col: 4}, "a:325 b:143 c:412 d:614 e:541 7 352"},
		{api.Change{Kind: api.Widen, Col: 6}, "a:325 b:143 c:432 d:624 e:541 7 352"},
		{api.Change{Kind: api.Split, Col: 1, Name: "f", Sep: ':'}, "a:325 b:143 f:841 c:432 d:614 e:541 8 352"},
		{api.Change{Kind: api.Split, Col: 1, Name: "f", Type: 9, Value: sample.Int(1), N: 9}, "a:325 b:143 f:841 c:432 d:614 e:541 8 352"},
		{api.Change{Kind: api.Resort, Col: 6}, "a:325 b:143 c:432 d:614 e:541 7 652"},
		{api.Change{Kind: api.Resort}, "a:325 b:143 c:432 d:614 e:541 7 052"},
		{api.Change{Kind: api.Repart, Col: 1, N: 4}, "a:325 b:143 c:432 d:614 e:541 7 314"},
		{api.Change{Kind: api.Repart, N: 1}, "a:325 b:143 c:432 d:614 e:541 7 301"},
		{api.Change{Kind: api.Repart, Col: 4, N: 1}, "a:325 b:143 c:432 d:614 e:541 7 341"},
		{api.Change{Kind: api.Redict}, "a:325 b:143 c:432 d:614 e:541 7 352"},
		{api.Change{Kind: api.Recode, Col: 5, N: 5}, "a:325 b:143 c:432 d:614 e:545 7 352"},
	} {
		s, l := base()
		s2, l2, e := schema.Apply(s, l, x.c)
		if e != api.OK || text(s2, l2) != x.want {
			t.Errorf("%v: %v %s", x.c, e, text(s2, l2))
		}
		if bs, bl := base(); !reflect.DeepEqual(s, bs) || !reflect.DeepEqual(l, bl) {
			t.Errorf("%v: what was handed in is changed", x.c)
		}
		if e == api.OK && (!schema.May(s2) || !schema.MayLayout(s2, l2)) {
			t.Errorf("%v: what comes may not be", x.c)
		}
	}
}

func TestApplyErrors(t *testing.T) {
	full := func(s *api.Schema, l *api.Layout) {
		s.Cols, l.Enc = append(s.Cols, api.Column{ID: 2, Name: "f", Type: api.Int}), append(l.Enc, 1)
	}
	last := func(s *api.Schema, l *api.Layout) { s.Last = 10000 }
	only := func(s *api.Schema, l *api.Layout) {
		s.Cols, l.Enc = s.Cols[1:2], l.Enc[1:2]
		l.SortBy, l.PartBy, l.Parts = 0, 0, 1
	}
	for i, x := range []struct {
		turn func(s *api.Schema, l *api.Layout)
		c    api.Change
		want api.Errno
	}{
		{func(s *api.Schema, l *api.Layout) { s.Last = 0 }, api.Change{Kind: api.Redict}, api.EArg},
		{func(s *api.Schema, l *api.Layout) { l.Parts = 0 }, api.Change{Kind: api.Redict}, api.EArg},
		{nil, api.Change{}, api.EArg}, {nil, api.Change{Kind: 10}, api.EArg}, {nil, api.Change{Kind: -1}, api.EArg},
		{full, api.Change{Kind: api.Add, Name: "", Type: api.Int}, api.EArg},
		{full, api.Change{Kind: api.Add, Name: "a", Type: 0}, api.EArg},
		{full, api.Change{Kind: api.Add, Name: "g", Type: 5}, api.EArg},
		{full, api.Change{Kind: api.Add, Name: "a", Type: api.Int, Value: sample.Small(1)}, api.EExist},
		{full, api.Change{Kind: api.Add, Name: "g", Type: api.Int, Value: sample.Small(1)}, api.EType},
		{full, api.Change{Kind: api.Add, Name: "g", Type: api.Small, Value: sample.Small(40000)}, api.EType},
		{full, api.Change{Kind: api.Add, Name: "g", Type: api.Int}, api.EFull},
		{last, api.Change{Kind: api.Add, Name: "g", Type: api.Int}, api.EFull},
		{nil, api.Change{Kind: api.Drop, Col: 2}, api.ENone}, {nil, api.Change{Kind: api.Drop, Col: 0}, api.ENone},
		{only, api.Change{Kind: api.Drop, Col: 1}, api.EArg}, {nil, api.Change{Kind: api.Drop, Col: 3}, api.EArg}, {nil, api.Change{Kind: api.Drop, Col: 5}, api.EArg},
		{nil, api.Change{Kind: api.Rename, Col: 2, Name: ""}, api.ENone}, {nil, api.Change{Kind: api.Rename, Col: 1, Name: "a b"}, api.EArg}, {nil, api.Change{Kind: api.Rename, Col: 1, Name: "a"}, api.EExist},
		{nil, api.Change{Kind: api.Widen, Col: 2}, api.ENone}, {nil, api.Change{Kind: api.Widen, Col: 1}, api.EType}, {nil, api.Change{Kind: api.Widen, Col: 3}, api.EType},
		{nil, api.Change{Kind: api.Split, Col: 2, Name: "f"}, api.ENone},
		{nil, api.Change{Kind: api.Split, Col: 3, Name: ""}, api.EType},
		{nil, api.Change{Kind: api.Split, Col: 5, Name: "a"}, api.EArg},
		{full, api.Change{Kind: api.Split, Col: 1, Name: ""}, api.EArg},
		{full, api.Change{Kind: api.Split, Col: 1, Name: "b"}, api.EExist},
		{full, api.Change{Kind: api.Split, Col: 1, Name: "g"}, api.EFull}, {last, api.Change{Kind: api.Split, Col: 1, Name: "g"}, api.EFull},
		{nil, api.Change{Kind: api.Resort, Col: 2}, api.ENone}, {nil, api.Change{Kind: api.Resort, Col: -1}, api.ENone},
		{nil, api.Change{Kind: api.Repart, Col: 2, N: 0}, api.EArg}, {nil, api.Change{Kind: api.Repart, Col: 1, N: 5}, api.EArg},
		{nil, api.Change{Kind: api.Repart, Col: 0, N: 2}, api.ENone}, {nil, api.Change{Kind: api.Repart, Col: 2, N: 1}, api.ENone},
		{nil, api.Change{Kind: api.Recode, Col: 2, N: 0}, api.ENone}, {nil, api.Change{Kind: api.Recode, Col: 1, N: 0}, api.EArg}, {nil, api.Change{Kind: api.Recode, Col: 1, N: 6}, api.EArg},
	} {
		s, l := base()
		if x.turn != nil {
			x.turn(&s, &l)
		}
		if s2, l2, e := schema.Apply(s, l, x.c); e != x.want || !reflect.DeepEqual(s2, api.Schema{}) || !reflect.DeepEqual(l2, api.Layout{}) {
			t.Errorf("%d: %v: %v, not %v", i, x.c, e, x.want)
		}
	}
}

// TestApplyIsNewMemory: not even the room behind a list that is handed in is written.
func TestApplyIsNewMemory(t *testing.T) {
	s, l := base()
	s.Cols, l.Enc = append(make([]api.Column, 0, 9), s.Cols...), append(make([]int, 0, 9), l.Enc...)
	s2, l2, _ := schema.Apply(s, l, api.Change{Kind: api.Add, Name: "f", Type: api.Int})
	if s.Cols[:6][5].ID != 0 || l.Enc[:6][5] != 0 {
		t.Error("spare room is written")
	}
	s2.Cols[0].Name, l2.Enc[0] = "q", api.Plain
	if s.Cols[0].Name != "a" || l.Enc[0] != api.Delta {
		t.Error("memory is shared")
	}
}

// TestGoesOnToBe: what may be goes on to be, whatever changes come.
func TestGoesOnToBe(t *testing.T) {
	r := rand.New(rand.NewSource(5))
	s, l := base()
	for i := range 20000 {
		c := api.Change{Kind: r.Intn(11), Col: r.Intn(12), Name: string(rune('a' + r.Intn(9))), Type: r.Intn(6), N: r.Intn(7)}
		if i%1000 == 0 {
			s, l = base()
		}
		s2, l2, e := schema.Apply(s, l, c)
		if e != api.OK {
			continue
		}
		if !schema.May(s2) || !schema.MayLayout(s2, l2) || s2.Last < s.Last {
			t.Fatalf("%v makes %v %v", c, s2, l2)
		}
		s, l = s2, l2
	}
}
