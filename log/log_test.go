package log_test

import (
	"bytes"
	"fmt"
	"strings"
	"testing"

	"rabbet/api"
	"rabbet/dev"
	"rabbet/log"
	"rabbet/tag"
)

func device(n int) *dev.Dev {
	d, _ := dev.New(n)
	return d
}

func recs(l ...string) [][]byte {
	var r [][]byte
	for _, s := range l {
		r = append(r, []byte(s))
	}
	return r
}

func same(a, b [][]byte) bool {
	return fmt.Sprintf("%q", a) == fmt.Sprintf("%q", b)
}

// opened is a log that was made of these records, and opened.
func opened(t *testing.T, d *dev.Dev, area int, first ...string) *log.Log {
	t.Helper()
	if e := log.Make(d, area, recs(first...)); e != api.OK {
		t.Fatalf("Make: %v", e)
	}
	l, got, e := log.Open(d, area)
	if e != api.OK || !same(got, recs(first...)) {
		t.Fatalf("Open: %q %v", got, e)
	}
	return l
}

// lies tells whether a block bears just load.
func lies(t *testing.T, d *dev.Dev, i int, gen, seq uint32, load string) {
	t.Helper()
	b, _ := d.Read(i)
	if want, _ := tag.Put(gen, seq, []byte(load)); !bytes.Equal(b, want) {
		t.Errorf("block %d: %x", i, b)
	}
}

func TestSize(t *testing.T) {
	if log.Size(1) != 4 || log.Size(1000) != 2002 || log.Size(0) != 2 {
		t.Error("Size")
	}
}

func TestLayout(t *testing.T) {
	long := strings.Repeat("x", 106) + "yz"
	d := device(12)
	if e := log.Make(d, 5, recs("ab", long, "")); e != api.OK {
		t.Fatal(e)
	}
	if d.Writes() != 5+4+1 {
		t.Errorf("%d writes", d.Writes())
	}
	lies(t, d, 7, 1, 0, "\x00\x00\x00\x02ab")
	lies(t, d, 8, 1, 1, "\x00\x00\x00\x6c"+long[:106])
	lies(t, d, 9, 1, 2, "yz")
	lies(t, d, 10, 1, 3, "\x00\x00\x00\x00")
	lies(t, d, 1, 1, 1<<32-1, "")
	if b, _ := d.Read(11); !bytes.Equal(b, make([]byte, api.Size)) {
		t.Error("the rest is noughts")
	}
	l, got, e := log.Open(d, 5)
	if e != api.OK || !same(got, recs("ab", long, "")) || l.Gen() != 2 || l.Room() != 1 {
		t.Fatalf("Open: %q %v", got, e)
	}
	lies(t, d, 0, 2, 1<<32-1, "")
	lies(t, d, 2, 2, 0, "\x00\x00\x00\x02ab")
	if e := l.Append([]byte("c")); e != api.OK || l.Room() != 0 {
		t.Errorf("Append: %v", e)
	}
	lies(t, d, 6, 2, 4, "\x00\x00\x00\x01c")
	d.Crash(nil, -1, 0)
	lies(t, d, 6, 2, 4, "\x00\x00\x00\x01c")
}

func TestMakeErrors(t *testing.T) {
	for i, x := range []struct {
		d     *dev.Dev
		area  int
		first [][]byte
		want  api.Errno
	}{
		{nil, 1, nil, api.EArg}, {device(12), 0, nil, api.EArg}, {device(12), -1, nil, api.EArg}, {device(11), 5, nil, api.EArg}, {device(4000), 1001, nil, api.EArg}, {device(12), 1 << 62, nil, api.EArg},
		{device(2002), 1000, [][]byte{make([]byte, 65537)}, api.EArg}, {device(12), 5, [][]byte{make([]byte, 60000), make([]byte, 65537)}, api.EArg}, {device(12), 5, recs("", "", "", "", "", ""), api.EFull}, {device(12), 5, [][]byte{make([]byte, 547)}, api.EFull},
	} {
		if e := log.Make(x.d, x.area, x.first); e != x.want {
			t.Errorf("%d: %v", i, e)
		}
		if x.d.Writes() != 0 {
			t.Errorf("%d: something is written", i)
		}
		if l, got, e := log.Open(x.d, x.area); l != nil || got != nil || e != x.want && e != api.EForm || e == api.EFull {
			t.Errorf("%d: Open: %v", i, e)
		}
	}
	if e := log.Make(device(12), 5, [][]byte{make([]byte, 546)}); e != api.OK {
		t.Errorf("just as much as there is room for: %v", e)
	}
	d := device(2002)
	if e := log.Make(d, 1000, [][]byte{bytes.Repeat([]byte{5}, 65536)}); e != api.OK {
		t.Errorf("the longest record: %v", e)
	}
	if _, got, e := log.Open(d, 1000); e != api.OK || len(got) != 1 || len(got[0]) != 65536 || got[0][65535] != 5 {
		t.Errorf("the longest record: %v", e)
	}
}

// TestJustBlocks: records that fill their last block, and the area.
func TestJustBlocks(t *testing.T) {
	for _, m := range [][]int{{106}, {216}, {105, 107}, {106, 106, 106}, {326}, {216, 106}, {0, 216}, {107, 0}} {
		d := device(8)
		var r [][]byte
		for i, n := range m {
			r = append(r, bytes.Repeat([]byte{byte('a' + i)}, n))
		}
		if e := log.Make(d, 3, r); e != api.OK {
			t.Fatalf("%v: %v", m, e)
		}
		if _, got, e := log.Open(d, 3); e != api.OK || !same(got, r) {
			t.Errorf("%v: %q %v", m, got, e)
		}
	}
}

// TestTooLong: what is longer than MaxRecord is no record, be it whole.
func TestTooLong(t *testing.T) {
	for _, x := range []struct {
		m    int
		want int
	}{{65536, 2}, {65537, 1}} {
		d := device(2002)
		if e := log.Make(d, 1000, recs("a")); e != api.OK {
			t.Fatal(e)
		}
		text := append([]byte{0, byte(x.m >> 16), byte(x.m >> 8), byte(x.m)}, make([]byte, x.m)...)
		for seq := uint32(1); len(text) > 0; seq++ {
			n := min(len(text), api.Load)
			b, _ := tag.Put(1, seq, text[:n])
			d.Write(1002+int(seq), b)
			text = text[n:]
		}
		if _, got, e := log.Open(d, 1000); e != api.OK || len(got) != x.want {
			t.Errorf("%d bytes: %d records, %v", x.m, len(got), e)
		}
	}
}

// TestNoughtsAreSure: ahead of the first record, the whole area is noughts for sure.
func TestNoughtsAreSure(t *testing.T) {
	d := device(8)
	l := opened(t, d, 3, "a", "b", "c")
	d.Stop(4)
	l.Anew(recs("d", "e"))
	d.Crash(nil, -1, 0)
	for i := 5; i < 8; i++ {
		if b, _ := d.Read(i); !bytes.Equal(b, make([]byte, api.Size)) {
			t.Errorf("block %d: %x", i, b)
		}
	}
	if _, got, e := log.Open(d, 3); e != api.OK || !same(got, recs("a", "b", "c")) {
		t.Errorf("%q %v", got, e)
	}
}

func TestAppendErrors(t *testing.T) {
	d := device(8)
	l := opened(t, d, 3, "a")
	n := d.Writes()
	for _, x := range []struct {
		m    int
		want api.Errno
	}{{65537, api.EArg}, {217, api.EFull}, {65536, api.EFull}} {
		if e := l.Append(make([]byte, x.m)); e != x.want || d.Writes() != n || l.Room() != 2 {
			t.Errorf("of %d: %v", x.m, e)
		}
	}
	if e := l.Append(make([]byte, 216)); e != api.OK || l.Room() != 0 {
		t.Errorf("just as much as there is room for: %v", e)
	}
	if e := l.Append(nil); e != api.EFull {
		t.Errorf("no room: %v", e)
	}
	for _, r := range [][][]byte{{make([]byte, 65537)}, recs("", "", "", "")} {
		n, gen := d.Writes(), l.Gen()
		if e := l.Anew(r); e == api.OK || d.Writes() != n || l.Gen() != gen {
			t.Errorf("Anew: %v", e)
		}
	}
	if e := l.Anew(nil); e != api.OK || l.Room() != 3 || l.Gen() != 3 {
		t.Errorf("Anew: %v", e)
	}
	if _, got, e := log.Open(d, 3); e != api.OK || len(got) != 0 {
		t.Errorf("%q %v", got, e)
	}
}

func TestOpenOfNone(t *testing.T) {
	slot := func(gen uint32) []byte {
		b, _ := tag.Put(gen, 1<<32-1, nil)
		return b
	}
	for i, x := range []struct {
		at  int
		gen uint32
	}{{0, 0}, {0, 1}, {1, 2}, {1, 1<<32 - 1}, {1, 0}} {
		d := device(4)
		d.Write(x.at, slot(x.gen))
		if l, got, e := log.Open(d, 1); l != nil || got != nil || e != api.EForm || d.Writes() != 1 {
			t.Errorf("%d: %v", i, e)
		}
	}
	d := device(4)
	d.Write(0, slot(1<<32-2))
	d.Write(1, slot(77))
	if l, got, e := log.Open(d, 1); len(got) != 0 || e != api.OK || l.Gen() != 1<<32-1 {
		t.Errorf("the greatest: %v", e)
	}
	other, _ := tag.Put(3, 0, nil)
	d = device(4)
	d.Write(1, other)
	if _, _, e := log.Open(d, 1); e != api.EForm {
		t.Errorf("a block that is no slot: %v", e)
	}
}

// TestNotWhole: what stands behind a record that is not whole is passed over, and is gone.
func TestNotWhole(t *testing.T) {
	long := strings.Repeat("x", 200)
	put := func(gen, seq uint32, load string) []byte {
		b, _ := tag.Put(gen, seq, []byte(load))
		return b
	}
	for i, x := range []struct {
		at   int
		b    []byte
		want int
	}{
		{9, make([]byte, 128), 0}, {10, make([]byte, 128), 1}, {11, make([]byte, 128), 1}, {12, make([]byte, 128), 2},
		{10, put(1, 1, "\x00\x00\x00\xc8short"), 1}, {11, put(1, 2, "too short"), 1}, {10, put(1, 1, "\x00\x00\x00"), 1}, {10, put(1, 1, "\x00\x00\x10\x00"+long[:106]), 1}, {10, put(1, 1, "\xff\xff\xff\xff"+long[:106]), 1},
		{12, put(1, 3, "\x00\x00\x00\x02c"), 2}, {12, put(1, 3, "\x00\x00\x00\x01cc"), 2}, {12, put(3, 3, "\x00\x00\x00\x01c"), 2}, {12, put(1, 2, "\x00\x00\x00\x01c"), 2}, {12, put(1, 3, "\x00\x00\x00\x01z"), 3},
		{13, put(1, 4, "\x00\x00\x00\x00"), 4}, {13, put(1, 4, ""), 3}, {13, put(1, 4, "\x00\x00\x00\x80"+long[:106]), 3}, {15, put(1, 6, "\x00\x00\x00\x01q"), 3},
	} {
		d := device(16)
		if log.Make(d, 7, recs("a", long, "c")) != api.OK {
			t.Fatal("Make")
		}
		d.Write(x.at, x.b)
		d.Flush()
		l, got, e := log.Open(d, 7)
		if e != api.OK || len(got) != x.want {
			t.Fatalf("%d: %q %v", i, got, e)
		}
		if l.Append([]byte("more")) != api.OK {
			t.Fatal("Append")
		}
		if _, again, _ := log.Open(d, 7); !same(again, append(got, []byte("more"))) {
			t.Errorf("%d: again: %q", i, again)
		}
	}
}

// TestCrash: behind any crash there are first records, at least all that were appended; of the one in flight all or nothing; or all of Anew's.
func TestCrash(t *testing.T) {
	long := strings.Repeat("y", 150)
	for stop := range 60 {
		for _, keep := range [][]byte{nil, {255, 255, 255}, {0x55, 0x55, 0x55}, {0xaa, 0xaa, 0xaa}, {0xfe, 0xff, 0xff}} {
			for _, torn := range []int{-1, 0, 1, 2, 5} {
				for _, at := range []int{0, 1, 4, 60, 121, 123, 127} {
					crash(t, stop, keep, torn, at, long)
				}
			}
		}
	}
}

func crash(t *testing.T, stop int, keep []byte, torn, at int, long string) {
	d := device(12)
	l := opened(t, d, 5, "first")
	d.Stop(stop)
	states := [][]string{{"first"}, {"first", long}, {"first", long, "b"}, {"new", long}, {"new", long, "c"}}
	done := 0
	for i, do := range []func() api.Errno{
		func() api.Errno { return l.Append([]byte(long)) }, func() api.Errno { return l.Append([]byte("b")) }, func() api.Errno { return l.Anew(recs("new", long)) }, func() api.Errno { return l.Append([]byte("c")) },
	} {
		if e := do(); e != api.OK {
			t.Fatal(e)
		}
		if d.Stopped() {
			break
		}
		done = i + 1
	}
	d.Crash(keep, torn, at)
	_, got, e := log.Open(d, 5)
	if e != api.OK || !same(got, recs(states[done]...)) && (done == 4 || !same(got, recs(states[done+1]...))) {
		t.Fatalf("stopped behind %d (keep %x, torn %d, at %d): %q %v", stop, keep, torn, at, got, e)
	}
	if _, again, e := log.Open(d, 5); e != api.OK || !same(again, got) {
		t.Fatalf("opened again: %q", again)
	}
}

func TestCrashInOpen(t *testing.T) {
	for stop := range 10 {
		d := device(12)
		l := opened(t, d, 5, "a")
		l.Append([]byte("b"))
		d.Stop(stop)
		log.Open(d, 5)
		d.Crash([]byte{0x5a, 0x33}, stop%4, 33)
		if _, got, e := log.Open(d, 5); e != api.OK || !same(got, recs("a", "b")) {
			t.Errorf("%d: %q %v", stop, got, e)
		}
	}
}

func TestNewMemory(t *testing.T) {
	d := device(12)
	l := opened(t, d, 5, "abc")
	r := []byte("def")
	l.Append(r)
	r[0] = 'z'
	_, got, _ := log.Open(d, 5)
	got[0][0] = 'z'
	if _, again, _ := log.Open(d, 5); !same(again, recs("abc", "def")) {
		t.Errorf("%q", again)
	}
}

func TestNil(t *testing.T) {
	var l *log.Log
	if l.Append(nil) != api.EArg || l.Anew(nil) != api.EArg || l.Room() != 0 || l.Gen() != 0 {
		t.Error("of a nil Log")
	}
	if l, got, e := log.Open(nil, 1); l != nil || got != nil || e != api.EArg {
		t.Error("of a nil Dev")
	}
}
