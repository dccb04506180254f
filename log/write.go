package log

import (
	"slices"

	"rabbet/api"
	"rabbet/fault"
	"rabbet/high"
	"rabbet/tag"
)

// Append lays rec behind the other records.
func (l *Log) Append(rec []byte) api.Errno {
	if l == nil {
		return api.EArg
	}
	return fault.Tell(l.more(rec))
}

func (l *Log) more(rec []byte) error {
	if err := fits(l.Room(), rec); err != nil {
		return err
	}
	l.lay(rec)
	l.d.Flush()
	return nil
}

// Anew makes recs all that there is: a generation more, in the other area.
func (l *Log) Anew(recs [][]byte) api.Errno {
	if l == nil {
		return api.EArg
	}
	return fault.Tell(l.anew(recs))
}

func (l *Log) anew(recs [][]byte) error {
	if err := fits(l.area, recs...); err != nil {
		return err
	}
	l.gen, l.used = l.gen+1, 0
	// What is left there of older records, or of torn ones, must not stand behind the new ones.
	for seq := range l.area {
		l.d.Write(l.block(l.gen, seq), make([]byte, api.Size))
	}
	l.d.Flush()
	for _, rec := range recs {
		l.lay(rec)
	}
	l.d.Flush()
	l.write(int(l.gen%slots), slotSeq, nil)
	l.d.Flush()
	return nil
}

// fits tells why recs may not be laid in so many blocks.
func fits(room int, recs ...[]byte) error {
	n := 0
	for i, rec := range recs {
		if len(rec) > api.MaxRecord {
			return fault.At("record", i, fault.Of(api.EArg))
		}
		n += blocks(len(rec))
	}
	if n > room {
		return fault.At("blocks", n, fault.Of(api.EFull))
	}
	return nil
}

// lay writes rec in the blocks behind those that are used.
func (l *Log) lay(rec []byte) {
	text := slices.Concat(high.Put(uint64(len(rec)), lengthOf), rec)
	for len(text) > 0 {
		n := min(len(text), api.Load)
		l.write(l.block(l.gen, l.used), uint32(l.used), text[:n])
		l.used++
		text = text[n:]
	}
}

func (l *Log) write(at int, seq uint32, load []byte) {
	if b, ok := tag.Put(l.gen, seq, load); ok {
		l.d.Write(at, b)
	}
}

// Room is how many blocks of the area are left.
func (l *Log) Room() int {
	if l == nil {
		return 0
	}
	return l.area - l.used
}

// Gen is the generation.
func (l *Log) Gen() uint32 {
	if l == nil {
		return 0
	}
	return l.gen
}
