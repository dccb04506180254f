package tag_test

import (
	"bytes"
	"testing"

	"rabbet/api"
	"rabbet/tag"
)

func TestPutTake(t *testing.T) {
	for _, load := range [][]byte{nil, {7}, bytes.Repeat([]byte{9}, 110)} {
		b, ok := tag.Put(0x01020304, 0xfffffffe, load)
		want := "\x01\x02\x03\x04\xff\xff\xff\xfe" + string(rune(len(load))) + string(load) + string(make([]byte, 111-len(load))) + "\x01\x02\x03\x04\xff\xff\xff\xfe"
		if !ok || len(b) != api.Size || string(b) != want {
			t.Errorf("Put of %d: %x", len(load), b)
		}
		got, ok := tag.Take(0x01020304, 0xfffffffe, b)
		if !ok || !bytes.Equal(got, load) {
			t.Errorf("Take of %d: %x", len(load), got)
		}
		if len(got) > 0 {
			if got[0]++; b[9] != load[0] {
				t.Error("memory is shared")
			}
		}
		if _, ok := tag.Take(0x01020305, 0xfffffffe, b); ok {
			t.Error("of another generation")
		}
		if _, ok := tag.Take(0x01020304, 0, b); ok {
			t.Error("of another place")
		}
	}
	if b, ok := tag.Put(1, 1, make([]byte, 111)); ok || b != nil {
		t.Error("a load that is too long")
	}
}

func TestTakeOfNone(t *testing.T) {
	b, _ := tag.Put(1, 2, []byte("abc"))
	for i := range b {
		for bit := range 8 {
			b[i] ^= 1 << bit
			load, ok := tag.Take(1, 2, b)
			again, _ := tag.Put(1, 2, load)
			if want := i >= 9 && i < 12 || i == 8 && b[i] > 3 && b[i] <= api.Load; ok != want || ok && !bytes.Equal(again, b) || !ok && load != nil {
				t.Errorf("bit %d of byte %d: %v", bit, i, ok)
			}
			b[i] ^= 1 << bit
		}
	}
	for _, x := range [][]byte{nil, b[:127], append(bytes.Clone(b), 0), make([]byte, 128), bytes.Repeat([]byte{255}, 128)} {
		if load, ok := tag.Take(1, 2, x); ok || load != nil {
			t.Errorf("%x", x)
		}
	}
}

// TestTorn: of a block that is torn over one with other numbers all is there, or it is none.
func TestTorn(t *testing.T) {
	b, _ := tag.Put(7, 3, []byte("fresh"))
	for _, old := range []struct {
		gen, seq uint32
		load     string
	}{{5, 3, "fresh"}, {7, 2, "old"}, {6, 3, "a longer load than it"}, {0, 0, ""}, {7 << 24, 3, ""}, {0xffffffff, 0xffffffff, "x"}} {
		was, _ := tag.Put(old.gen, old.seq, []byte(old.load))
		for at := range api.Size + 1 {
			torn := append(bytes.Clone(b[:at]), was[at:]...)
			if load, ok := tag.Take(7, 3, torn); ok && (string(load) != "fresh" || !bytes.Equal(torn, b)) {
				t.Errorf("torn behind %d over %v: %q", at, old, load)
			}
			if load, ok := tag.Take(old.gen, old.seq, torn); ok && string(load) != old.load {
				t.Errorf("torn behind %d: the old one is %q", at, load)
			}
		}
	}
}
