package scan

import (
	"errors"
	"testing"

	"rabbet/api"
	"rabbet/fault"
	"rabbet/sample"
)

func TestReader(t *testing.T) {
	b := []byte("\x01\x02ab\xac\x02\x04\x01x\x01\x00\x00")
	r := New(b)
	if n := r.High(2); n != 258 {
		t.Errorf("High: %d", n)
	}
	ab := r.Bytes(2)
	if string(ab) != "ab" {
		t.Errorf("Bytes: %q", ab)
	}
	if ab[0] = 'z'; b[2] != 'a' {
		t.Error("memory is shared")
	}
	if u := r.Num(); u != 300 {
		t.Errorf("Num: %d", u)
	}
	if v := r.Value(); v != sample.Text("x") {
		t.Errorf("Value: %v", v)
	}
	if z := r.Zone(); z != (api.Zone{Nulls: 1}) {
		t.Errorf("Zone: %v", z)
	}
	if r.Left() != 0 || r.At() != len(b) || r.Err() != nil {
		t.Errorf("the end: %d %d %v", r.Left(), r.At(), r.Err())
	}
}

func TestErrors(t *testing.T) {
	for i, read := range []func(r *Reader){
		func(r *Reader) { r.Bytes(3) }, func(r *Reader) { r.Bytes(-1) }, func(r *Reader) { r.High(4) }, func(r *Reader) { r.Num() }, func(r *Reader) { r.Value() }, func(r *Reader) { r.Zone() },
	} {
		r := New([]byte("\x00\xff\xff"))
		r.High(1)
		read(r)
		var w *fault.Where
		if !errors.As(r.Err(), &w) || w.Place != 1 {
			t.Errorf("%d: %v", i, r.Err())
		}
		if r.Bytes(1) != nil || r.High(1) != 0 || r.Value() != (api.Value{}) || r.At() != 1 {
			t.Errorf("%d: something is read behind an error", i)
		}
	}
	r := New([]byte{0, 7})
	if r.Bytes(3); r.Value() != (api.Value{}) || r.Num() != 0 || r.At() != 0 {
		t.Error("what may be read is not, behind an error")
	}
	r = New([]byte{7})
	if len(r.Bytes(0)) != 0 || len(r.Bytes(1)) != 1 || len(r.Bytes(0)) != 0 || r.Err() != nil {
		t.Error("all bytes, and none")
	}
	r = New(nil)
	r.Fail(fault.ErrType)
	r.Fail(fault.ErrSpare)
	if !errors.Is(r.Err(), fault.ErrType) || errors.Is(r.Err(), fault.ErrSpare) {
		t.Error("the first error stays")
	}
}
