package schema

import (
	"errors"
	"slices"

	"rabbet/api"
	"rabbet/fault"
	"rabbet/fresh"
	"rabbet/value"
)

// Why a change may not be.
var (
	errArg   = errors.New("it may not be")
	errNone  = errors.New("no such column")
	errExist = errors.New("a column has that name")
	errType  = errors.New("of another type")
	errFull  = errors.New("no more columns")
)

// Apply is what s and l are behind the change c.
func Apply(s api.Schema, l api.Layout, c api.Change) (api.Schema, api.Layout, api.Errno) {
	if !May(s) || !MayLayout(s, l) {
		return api.Schema{}, api.Layout{}, api.EArg
	}
	t := turn{s: fresh.Schema(s), l: fresh.Layout(l), c: c}
	if err := t.apply(); err != nil {
		return api.Schema{}, api.Layout{}, tell(err)
	}
	return t.s, t.l, api.OK
}

func tell(err error) api.Errno {
	switch {
	case errors.Is(err, errNone):
		return api.ENone
	case errors.Is(err, errExist):
		return api.EExist
	case errors.Is(err, errType):
		return api.EType
	case errors.Is(err, errFull):
		return api.EFull
	}
	return api.EArg
}

// turn is a change on its way: s and l are copies that it may write to.
type turn struct {
	s api.Schema
	l api.Layout
	c api.Change
}

func (t *turn) apply() error {
	at, found := ByID(t.s, t.c.Col)
	switch t.c.Kind {
	case api.Drop, api.Rename, api.Widen, api.Split, api.Recode:
		if !found {
			return fault.At("column", t.c.Col, errNone)
		}
		return t.change(at)
	case api.Add:
		return t.change(len(t.s.Cols) - 1)
	case api.Resort:
		return t.resort(found)
	case api.Repart:
		return t.repart(found)
	case api.Redict:
		return nil
	}
	return fault.At("kind", t.c.Kind, errArg)
}

// change changes the column at a place, or what is at its right.
func (t *turn) change(at int) error {
	switch t.c.Kind {
	case api.Drop:
		return t.drop(at)
	case api.Rename:
		return t.rename(at)
	case api.Widen:
		return t.widen(at)
	case api.Recode:
		return t.recode(at)
	case api.Split:
		if err := t.maySplit(at); err != nil {
			return err
		}
		t.c.Type, t.c.Value = api.Text, api.Value{}
		fallthrough // what is new of a split is one more column
	case api.Add:
		return t.add(at + 1)
	}
	return fault.At("kind", t.c.Kind, errArg)
}

// add makes a column more, at a place.
func (t *turn) add(at int) error {
	if !MayName(t.c.Name) || !isType(t.c.Type) {
		return fault.At("name or type", t.c.Type, errArg)
	}
	if k, ok := Find(t.s, t.c.Name); ok {
		return fault.At("name of column", k, errExist)
	}
	if !value.Fits(t.c.Type, t.c.Value) {
		return fault.At("value of type", t.c.Value.Type, errType)
	}
	if len(t.s.Cols) >= api.MaxCols || t.s.Last >= maxLast {
		return fault.At("columns", len(t.s.Cols), errFull)
	}
	t.s.Last++
	t.s.Cols = slices.Insert(t.s.Cols, at, api.Column{ID: t.s.Last, Name: t.c.Name, Type: t.c.Type})
	t.l.Enc = slices.Insert(t.l.Enc, at, api.Plain)
	return nil
}

func (t *turn) drop(at int) error {
	if len(t.s.Cols) == 1 || t.laid() {
		return fault.At("drop of column", at, errArg)
	}
	t.s.Cols = slices.Delete(t.s.Cols, at, at+1)
	t.l.Enc = slices.Delete(t.l.Enc, at, at+1)
	return nil
}

// laid tells whether the layout asks for the column.
func (t *turn) laid() bool { return t.c.Col == t.l.SortBy || t.c.Col == t.l.PartBy }

func (t *turn) rename(at int) error {
	if !MayName(t.c.Name) {
		return fault.At("name of column", at, errArg)
	}
	if k, ok := Find(t.s, t.c.Name); ok && k != at {
		return fault.At("name of column", k, errExist)
	}
	t.s.Cols[at].Name = t.c.Name
	return nil
}

func (t *turn) widen(at int) error {
	switch c := &t.s.Cols[at]; c.Type {
	case api.Bool:
		c.Type = api.Small
	case api.Small:
		c.Type = api.Int
	default:
		return fault.At("widening of type", c.Type, errType)
	}
	return nil
}

func (t *turn) maySplit(at int) error {
	if t.s.Cols[at].Type != api.Text {
		return fault.At("split of column", at, errType)
	}
	if t.laid() {
		return fault.At("split of column", at, errArg)
	}
	return nil
}

func (t *turn) recode(at int) error {
	if !isEncoding(t.c.N) {
		return fault.At("encoding", t.c.N, errArg)
	}
	t.l.Enc[at] = t.c.N
	return nil
}

func (t *turn) resort(found bool) error {
	if t.c.Col != 0 && !found {
		return fault.At("column", t.c.Col, errNone)
	}
	t.l.SortBy = t.c.Col
	return nil
}

func (t *turn) repart(found bool) error {
	if t.c.N < 1 || t.c.N > api.MaxParts {
		return fault.At("parts", t.c.N, errArg)
	}
	if !found && (t.c.Col != 0 || t.c.N != 1) {
		return fault.At("column", t.c.Col, errNone)
	}
	t.l.PartBy, t.l.Parts = t.c.Col, t.c.N
	return nil
}
