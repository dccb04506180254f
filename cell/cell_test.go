package cell

import (
	"errors"
	"testing"

	"rabbet/api"
	"rabbet/fault"
)

func TestPutTake(t *testing.T) {
	for _, x := range []struct {
		v    api.Value
		want string
	}{
		{api.Value{Type: api.Int, I: 1}, "\x02"}, {api.Value{Type: api.Small, I: -300}, "\xd7\x04"}, {api.Value{Type: api.Bool, I: 1}, "\x01"}, {api.Value{Type: api.Text, S: "ab"}, "\x02ab"}, {api.Value{Type: api.Text}, "\x00"},
	} {
		if string(Put(x.v)) != x.want {
			t.Errorf("Put(%v): %x", x.v, Put(x.v))
		}
		if v, n, err := Take(x.v.Type, []byte(x.want+"z")); v != x.v || n != len(x.want) || err != nil {
			t.Errorf("Take of %x: %v %d %v", x.want, v, n, err)
		}
		for k := range x.want {
			if _, _, err := Take(x.v.Type, []byte(x.want[:k])); !errors.Is(err, fault.ErrShort) {
				t.Errorf("Take of %x: %v", x.want[:k], err)
			}
		}
	}
}

func TestTakeOfNone(t *testing.T) {
	for _, x := range []struct {
		t int
		b string
	}{{api.Bool, "\x02"}, {api.Small, "\x80\x80\x04"}, {api.Text, "\x15aaaaaaaaaaaaaaaaaaaaa"}, {0, "\x00"}, {5, "\x00"}} {
		if v, n, err := Take(x.t, []byte(x.b)); err == nil || n != 0 || v != (api.Value{}) {
			t.Errorf("Take(%d, %x): %v", x.t, x.b, v)
		}
	}
}

func TestChecks(t *testing.T) {
	one := []api.Value{{Type: api.Int}}
	if All(api.Int, one) != nil || All(api.Text, nil) != nil {
		t.Error("what may be")
	}
	if All(api.Small, one) == nil || All(api.Int, []api.Value{{}}) == nil || All(0, nil) == nil || All(api.Bool, []api.Value{{Type: api.Bool, I: 2}}) == nil {
		t.Error("what may not be")
	}
	if Count(api.Int, 0) != nil || Count(api.Int, Most) != nil || Count(api.Int, -1) == nil || Count(api.Int, Most+1) == nil || Count(9, 1) == nil {
		t.Error("counts")
	}
}

func TestSame(t *testing.T) {
	l, b := []api.Value{{Type: api.Int}}, []byte{0}
	if got, err := Same(l, b, []byte{0}, nil); err != nil || len(got) != 1 {
		t.Error("the same bytes")
	}
	if got, err := Same(l, b, []byte{1}, nil); !errors.Is(err, fault.ErrSpare) || got != nil {
		t.Error("other bytes")
	}
	if got, err := Same(l, b, nil, fault.ErrType); !errors.Is(err, fault.ErrType) || got != nil {
		t.Error("no bytes")
	}
}
