package store

import (
	"rabbet/api"
	"rabbet/batch"
	"rabbet/fault"
	"rabbet/part"
	"rabbet/schema"
	"rabbet/seg"
	"rabbet/sorts"
)

// Load is the segment that lies where i says.
func (s *Store) Load(i api.Item) (api.Segment, bool) {
	if s == nil || i.Bytes < 1 || i.E.N < blocks(i.Bytes) {
		return api.Segment{}, false
	}
	var b []byte
	for k := range i.E.N {
		block, ok := s.d.Read(i.E.At + k)
		if !ok {
			return api.Segment{}, false
		}
		b = append(b, block...)
	}
	return seg.Take(b[:i.Bytes])
}

// blocks is how many blocks n bytes take.
func blocks(n int) int { return (n-1)/api.Size + 1 }

// Keep makes segments of rows and writes them where there is room: nothing that there is names them yet.
func (s *Store) Keep(version, sortBy int, sc api.Schema, l api.Layout, rows []api.Row) ([]api.Item, api.Errno) {
	if s == nil {
		return nil, api.EArg
	}
	items, err := s.keep(version, sortBy, sc, l, rows)
	return items, fault.Tell(err)
}

func (s *Store) keep(version, sortBy int, sc api.Schema, l api.Layout, rows []api.Row) ([]api.Item, error) {
	if len(rows) == 0 {
		return nil, nil
	}
	segs, err := segments(version, sortBy, sc, l, rows)
	if err != nil {
		return nil, err
	}
	if len(segs) > api.MaxSegs {
		return nil, fault.At("segments", len(segs), fault.Of(api.EFull))
	}
	items, err := s.take(segs)
	if err != nil {
		return nil, err
	}
	for i, g := range segs {
		s.write(items[i].E, seg.Put(g))
	}
	s.d.Flush()
	return items, nil
}

// take takes room for each of segs, or none.
func (s *Store) take(segs []api.Segment) ([]api.Item, error) {
	var items []api.Item
	for i, g := range segs {
		n := len(seg.Put(g))
		e, ok := s.room.Take(blocks(n))
		if !ok {
			s.free(items)
			return nil, fault.At("segment", i, fault.Of(api.EFull))
		}
		items = append(items, api.Item{E: e, Bytes: n, Rows: seg.Rows(g), Part: g.Part})
	}
	return items, nil
}

func (s *Store) free(items []api.Item) {
	for _, i := range items {
		s.room.Free(i.E)
	}
}

// write lays b in the blocks of e, noughts behind it.
func (s *Store) write(e api.Extent, b []byte) {
	full := make([]byte, e.N*api.Size)
	copy(full, b)
	for k := range e.N {
		s.d.Write(e.At+k, full[k*api.Size:][:api.Size])
	}
}

// segments is rows as segments: part by part, each in the order of the column of that ID, as full as may be.
func segments(version, sortBy int, sc api.Schema, l api.Layout, rows []api.Row) ([]api.Segment, error) {
	cols, ok := batch.Columns(rows, len(sc.Cols))
	if !ok {
		return nil, fault.At("columns", len(sc.Cols), fault.Of(api.EArg))
	}
	var types []int
	for _, c := range sc.Cols {
		types = append(types, c.Type)
	}
	at := place(sc, sortBy)
	var segs []api.Segment
	for p, places := range part.Apart(cols, place(sc, l.PartBy), l.Parts) {
		mine := batch.Pick(cols, places)
		order := sorts.Order(mine, []sorts.Key{{At: at}})
		for len(order) > 0 {
			n := min(len(order), api.SegRows)
			g, ok := seg.Make(version, p, at+1, types, l.Enc, batch.Pick(mine, order[:n]))
			if !ok {
				return nil, fault.At("segment", len(segs), fault.Of(api.EArg))
			}
			segs = append(segs, g)
			order = order[n:]
		}
	}
	return segs, nil
}

// place is where the column of that ID is; -1: there is none.
func place(sc api.Schema, id int) int {
	if at, ok := schema.ByID(sc, id); ok {
		return at
	}
	return -1
}
