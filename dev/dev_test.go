package dev_test

import (
	"bytes"
	"testing"

	"rabbet/api"
	"rabbet/dev"
)

func block(x byte) []byte { return bytes.Repeat([]byte{x}, api.Size) }

func made(t *testing.T, n int) *dev.Dev {
	d, ok := dev.New(n)
	if !ok {
		t.Fatal("no device")
	}
	return d
}

func is(t *testing.T, d *dev.Dev, i int, want []byte) {
	t.Helper()
	if b, ok := d.Read(i); !ok || !bytes.Equal(b, want) {
		t.Errorf("block %d: %x", i, b)
	}
}

func TestNew(t *testing.T) {
	for n, want := range map[int]bool{-1: false, 0: false, 1: true, 4000: true, 4001: false} {
		d, ok := dev.New(n)
		if ok != want || (d != nil) != want || want && d.Blocks() != n {
			t.Errorf("New(%d): %v", n, ok)
		}
	}
	d := made(t, 3)
	for i := range 3 {
		is(t, d, i, block(0))
	}
}

func TestReadWrite(t *testing.T) {
	d := made(t, 3)
	b := block(7)
	if !d.Write(1, b) || d.Writes() != 1 {
		t.Error("a write")
	}
	b[0] = 9
	is(t, d, 1, block(7))
	is(t, d, 0, block(0))
	got, _ := d.Read(1)
	got[0] = 9
	is(t, d, 1, block(7))
	for _, i := range []int{-1, 3, 1 << 62} {
		if b, ok := d.Read(i); ok || b != nil {
			t.Errorf("there is no block %d", i)
		}
		if d.Write(i, b) {
			t.Errorf("there is no block %d", i)
		}
	}
	if d.Write(0, b[:127]) || d.Write(0, append(block(1), 1)) || d.Write(0, nil) || d.Writes() != 1 {
		t.Error("not of Size bytes")
	}
}

func TestFlushCrash(t *testing.T) {
	d := made(t, 4)
	d.Write(0, block(1))
	d.Flush()
	d.Write(0, block(2))
	d.Write(1, block(3))
	d.Crash(nil, -1, 0)
	is(t, d, 0, block(1))
	is(t, d, 1, block(0))
	if d.Writes() != 3 {
		t.Errorf("%d writes", d.Writes())
	}
	d.Crash([]byte{255}, 0, 5) // nothing is on the way any more
	is(t, d, 0, block(1))
}

func TestCrashKeeps(t *testing.T) {
	for i, x := range []struct {
		keep     []byte
		torn, at int
		want     [3]byte
		head     int // so many bytes of block 1 are of the write 4
	}{
		{[]byte{0b00001}, -1, 0, [3]byte{1, 0, 0}, 0}, {[]byte{0b10101}, -1, 0, [3]byte{5, 0, 3}, 0}, {[]byte{0b00011}, -5, 9, [3]byte{2, 0, 0}, 0}, {[]byte{0b11111}, -1, 0, [3]byte{5, 4, 3}, 0},
		{[]byte{0b10111}, 3, 50, [3]byte{5, 4, 3}, 50}, {[]byte{0b11111}, 3, 0, [3]byte{5, 0, 3}, 0}, {[]byte{0b11111}, 3, -7, [3]byte{5, 0, 3}, 0}, {nil, 3, 1000, [3]byte{0, 4, 0}, 128}, {nil, 3, 128, [3]byte{0, 4, 0}, 128},
		{[]byte{0b11111}, 5, 10, [3]byte{5, 4, 3}, 0}, {[]byte{0, 255}, -1, 0, [3]byte{0, 0, 0}, 0}, {nil, 3, 127, [3]byte{0, 4, 0}, 127},
	} {
		d := made(t, 3)
		for k, at := range []int{0, 0, 2, 1, 0} {
			d.Write(at, block(byte(k+1)))
		}
		keep := bytes.Clone(x.keep)
		d.Crash(keep, x.torn, x.at)
		for at, w := range x.want {
			want := block(w)
			if at == 1 && x.head > 0 {
				want = append(block(w)[:x.head], block(0)[x.head:]...)
			}
			if b, _ := d.Read(at); !bytes.Equal(b, want) {
				t.Errorf("%d: block %d: %x", i, at, b)
			}
		}
		if !bytes.Equal(keep, x.keep) {
			t.Errorf("%d: keep is changed", i)
		}
		is1, _ := d.Read(1)
		d.Crash([]byte{255}, 0, 128) // what is there is sure
		is(t, d, 1, is1)
	}
}

func TestTornOverWhatIsSure(t *testing.T) {
	d := made(t, 1)
	d.Write(0, block(1))
	d.Flush()
	d.Write(0, block(2))
	d.Write(0, block(3))
	d.Crash([]byte{1}, 1, 10)
	is(t, d, 0, append(block(3)[:10], block(2)[10:]...))
}

func TestKeepBeyondEight(t *testing.T) {
	d := made(t, 12)
	for i := range 12 {
		d.Write(i, block(1))
	}
	d.Crash([]byte{0, 2}, -1, 0)
	is(t, d, 1, block(0))
	is(t, d, 8, block(0))
	is(t, d, 9, block(1))
	is(t, d, 10, block(0))
}

func TestNoSuchByte(t *testing.T) {
	d := made(t, 20)
	for i := range 20 {
		d.Write(i, block(1))
	}
	d.Crash([]byte{0xff, 0xff}, -1, 0)
	for i := range 20 {
		want := block(1)
		if i >= 16 {
			want = block(0)
		}
		is(t, d, i, want)
	}
}

func TestStop(t *testing.T) {
	d := made(t, 3)
	if d.Stopped() {
		t.Error("nothing is stopped yet")
	}
	d.Stop(2)
	d.Write(0, block(1))
	d.Write(9, block(1)) // none: it does not count
	if d.Stopped() {
		t.Error("one more write is to be done")
	}
	d.Flush()
	d.Write(1, block(2))
	if !d.Stopped() {
		t.Error("it has stopped")
	}
	if !d.Write(2, block(3)) || d.Write(3, block(3)) || d.Write(0, nil) || d.Writes() != 2 {
		t.Error("writes answer as ever, and are none")
	}
	is(t, d, 1, block(2))
	is(t, d, 2, block(0))
	d.Flush()
	d.Crash(nil, -1, 0)
	is(t, d, 0, block(1))
	is(t, d, 1, block(0))
	if d.Stopped() {
		t.Error("behind a crash nothing is stopped")
	}
	d.Stop(0)
	if !d.Stopped() {
		t.Error("stopped at once")
	}
	d.Stop(5)
	if d.Stopped() {
		t.Error("the last one holds")
	}
	d.Stop(0)
	d.Stop(-1)
	if d.Stopped() || !d.Write(0, block(9)) || d.Writes() != 3 {
		t.Error("it goes on")
	}
	for range 9 {
		d.Write(0, block(9))
	}
	if d.Stopped() || d.Writes() != 12 {
		t.Error("it goes on for good")
	}
}

func TestCopy(t *testing.T) {
	d := made(t, 2)
	d.Write(0, block(1))
	d.Flush()
	d.Write(1, block(2))
	d.Stop(1)
	c := d.Copy()
	c.Write(0, block(3))
	c.Flush()
	if !c.Stopped() || d.Stopped() || d.Writes() != 2 || c.Writes() != 3 {
		t.Error("a copy stops by itself")
	}
	is(t, d, 0, block(1))
	is(t, c, 0, block(3))
	c.Crash([]byte{1}, -1, 0)
	is(t, c, 1, block(2))
	is(t, c, 0, block(1))
	d.Crash(nil, -1, 0)
	is(t, d, 1, block(0))
}

func TestNil(t *testing.T) {
	var d *dev.Dev
	d.Flush()
	d.Crash([]byte{1}, 0, 1)
	d.Stop(1)
	if _, ok := d.Read(0); ok || d.Write(0, block(0)) || d.Stopped() || d.Blocks() != 0 || d.Writes() != 0 || d.Copy() != nil {
		t.Error("of a nil Dev")
	}
}
