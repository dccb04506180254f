package fault

import (
	"errors"
	"testing"

	"rabbet/api"
)

func TestWhere(t *testing.T) {
	err := At("row", 3, At("value", 1, ErrValue))
	if !errors.Is(err, ErrValue) || errors.Is(err, ErrShort) {
		t.Error("what is wrapped is not found")
	}
	if err.Error() != "row 3: value 1: it may not be" {
		t.Errorf("told as %q", err.Error())
	}
	var w *Where
	if !errors.As(err, &w) || w.Place != 3 {
		t.Error("the place is lost")
	}
	if At("row", 3, nil) != nil {
		t.Error("no error became one")
	}
}

func TestTell(t *testing.T) {
	if Of(api.OK) != nil {
		t.Error("OK is no error")
	}
	if Tell(nil) != api.OK || Tell(Of(api.OK)) != api.OK {
		t.Error("no error is OK")
	}
	if Tell(At("key", 0, At("name", 2, Of(api.ENone)))) != api.ENone {
		t.Error("the Errno is lost")
	}
	if Tell(ErrShort) != api.EForm {
		t.Error("an error without an Errno is EForm")
	}
	if Errno(api.EFull).Error() != "errno 6" {
		t.Error("an Errno as a text")
	}
}

func TestList(t *testing.T) {
	if l, ok := List([]int{1}, nil); !ok || len(l) != 1 {
		t.Error("a list is told")
	}
	if l, ok := List([]int{1}, ErrShort); ok || l != nil {
		t.Error("beside an error there is no list")
	}
}
