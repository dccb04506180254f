package pen

import (
	"errors"
	"slices"
	"testing"

	"rabbet/api"
	"rabbet/fault"
	"rabbet/sample"
)

type thing struct {
	long  int64
	n     int
	yes   bool
	high  int
	below int
	text  string
	v     api.Value
	l     []int
}

func through(p *Pen, x thing) thing {
	x.long, x.n, x.yes = p.Long(x.long), p.Int(x.n), p.Bool(x.yes)
	x.high, x.below = p.High(x.high, 2), p.Below(x.below, 7)
	x.text = p.Text(x.text, p.High(len(x.text), 1))
	x.v = p.Value(x.v)
	x.l = List(p, x.l, p.Count(len(x.l)), p.Int)
	return x
}

func same(a, b thing) bool {
	return a.long == b.long && a.n == b.n && a.yes == b.yes && a.high == b.high && a.below == b.below && a.text == b.text && a.v == b.v && slices.Equal(a.l, b.l)
}

func TestBothWays(t *testing.T) {
	x := thing{long: -300, n: 1, yes: true, high: 258, below: 6, text: "ab", v: sample.Bool(1), l: []int{-1, 2}}
	p := Write()
	if told := through(p, x); !same(told, x) || p.Err() != nil || p.Left() != 0 {
		t.Errorf("%v %v", told, p.Err())
	}
	want := "\xd7\x04\x02\x02\x01\x02\x06\x02ab\x03\x01\x02\x01\x04"
	if string(p.Out()) != want {
		t.Errorf("%x", p.Out())
	}
	r := Read([]byte(want + "z"))
	if told := through(r, thing{}); !same(told, x) || r.Err() != nil || r.Left() != 1 {
		t.Errorf("%v %v", told, r.Err())
	}
	for k := range want {
		r := Read([]byte(want[:k]))
		if through(r, thing{}); !errors.Is(r.Err(), fault.ErrShort) && !errors.Is(r.Err(), fault.ErrValue) {
			t.Errorf("cut off at %d: %v", k, r.Err())
		}
	}
}

func TestErrors(t *testing.T) {
	for i, turn := range []func(x *thing){func(x *thing) { x.high = -1 }, func(x *thing) { x.high = 65536 }, func(x *thing) { x.below = 7 }, func(x *thing) { x.below = -1 }, func(x *thing) { x.text = string(make([]byte, 256)) }, func(x *thing) { x.v = api.Value{Type: 9} }} {
		x := thing{}
		turn(&x)
		p := Write()
		if through(p, x); !errors.Is(p.Err(), fault.ErrBound) && !errors.Is(p.Err(), fault.ErrValue) {
			t.Errorf("%d: %v", i, p.Err())
		}
	}
	if p := Read([]byte{9}); p.Below(0, 7) != 2 || p.Err() != nil {
		t.Error("what is above is taken modulo most")
	}
	for _, n := range []int{0, 65535} {
		p := Write()
		if p.High(n, 2); p.Err() != nil || len(p.Out()) != 2 {
			t.Errorf("%d: %v", n, p.Err())
		}
	}
	if p := Read([]byte{2, 0, 0}); p.Count(0) != 2 || p.Err() != nil {
		t.Error("just as many as there may be")
	}
	if p := Read([]byte{200, 1, 0}); p.Count(0) != 0 || !errors.Is(p.Err(), fault.ErrShort) {
		t.Error("more than there may be")
	}
}
