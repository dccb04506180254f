package value_test

import (
	"slices"
	"strings"
	"testing"

	"rabbet/api"
	"rabbet/value"
)

func num(t int, n int64) api.Value { return api.Value{Type: t, I: n} }

func text(s string) api.Value { return api.Value{Type: api.Text, S: s} }

var good = []struct {
	v    api.Value
	want string
}{
	{api.Value{}, "\x00"},
	{num(api.Small, -32768), "\x01\x80\x00"}, {num(api.Small, -1), "\x01\xff\xff"}, {num(api.Small, 258), "\x01\x01\x02"}, {num(api.Small, 32767), "\x01\x7f\xff"},
	{num(api.Int, -1<<63), "\x02\x80\x00\x00\x00\x00\x00\x00\x00"}, {num(api.Int, -2), "\x02\xff\xff\xff\xff\xff\xff\xff\xfe"}, {num(api.Int, 1<<63-1), "\x02\x7f\xff\xff\xff\xff\xff\xff\xff"},
	{num(api.Bool, 0), "\x03\x00"}, {num(api.Bool, 1), "\x03\x01"},
	{text(""), "\x04\x00"}, {text("a\x00b"), "\x04\x03a\x00b"}, {text(strings.Repeat("y", 20)), "\x04\x14" + strings.Repeat("y", 20)},
}

var bad = []api.Value{
	{I: 1}, {S: "a"}, {I: -1}, {Type: api.Small, I: 32768}, {Type: api.Small, I: -32769}, {Type: api.Small, S: "a"},
	{Type: api.Int, S: "a"}, {Type: api.Bool, I: 2}, {Type: api.Bool, I: -1}, {Type: api.Bool, S: "a"},
	{Type: api.Text, I: 1}, {Type: api.Text, S: strings.Repeat("y", 21)}, {Type: 5}, {Type: -1}, {Type: 256}, {Type: 258},
}

func TestGood(t *testing.T) {
	for _, x := range good {
		if !value.May(x.v) || string(value.Put(x.v)) != x.want {
			t.Errorf("%v: %v %x", x.v, value.May(x.v), value.Put(x.v))
		}
		for _, tail := range []string{"", "\x00", "more"} {
			if v, n, ok := value.Take([]byte(x.want + tail)); !ok || v != x.v || n != len(x.want) {
				t.Errorf("%v with %q: %v %d %v", x.v, tail, v, n, ok)
			}
		}
		for k := range x.want {
			if v, n, ok := value.Take([]byte(x.want[:k])); ok || n != 0 || v != (api.Value{}) {
				t.Errorf("%v: taken from its first %d", x.v, k)
			}
		}
	}
}

func TestBad(t *testing.T) {
	for _, v := range bad {
		if value.May(v) || value.Put(v) != nil {
			t.Errorf("%v may be", v)
		}
		for ty := range 6 {
			if value.Fits(ty, v) {
				t.Errorf("%v fits %d", v, ty)
			}
		}
	}
	for _, s := range []string{"", "\x03\x02", "\x03\xff", "\x05", "\xff", "\x04\x15" + strings.Repeat("y", 21)} {
		if v, n, ok := value.Take([]byte(s)); ok || n != 0 || v != (api.Value{}) {
			t.Errorf("%x is taken", s)
		}
	}
}

func TestFits(t *testing.T) {
	for _, x := range good {
		for ty := -1; ty <= 6; ty++ {
			want := ty >= api.Small && ty <= api.Text && (x.v.Type == 0 || x.v.Type == ty)
			if value.Fits(ty, x.v) != want {
				t.Errorf("Fits(%d, %v) is %v", ty, x.v, !want)
			}
		}
	}
}

func TestCompare(t *testing.T) {
	rising := [][]api.Value{
		{{}},
		{num(api.Int, -1<<63)},
		{num(api.Small, -1), num(api.Int, -1)},
		{num(api.Small, 0), num(api.Int, 0), num(api.Bool, 0)},
		{num(api.Small, 1), num(api.Int, 1), num(api.Bool, 1)},
		{num(api.Int, 1<<63-1)},
		{text("")}, {text("a")}, {text("a\x00")}, {text("ab")}, {text("b")}, {text("\xff")},
	}
	for i, as := range rising {
		for k, bs := range rising {
			want := min(max(i-k, -1), 1)
			for _, a := range as {
				for _, b := range bs {
					if value.Compare(a, b) != want {
						t.Errorf("Compare(%v, %v): %d", a, b, value.Compare(a, b))
					}
				}
			}
		}
	}
}

func TestPutIsNewMemory(t *testing.T) {
	b := value.Put(text("abc"))
	v, _, _ := value.Take(b)
	b[2] = 'z'
	if v.S != "abc" || !slices.Equal(value.Put(text("abc")), []byte("\x04\x03abc")) {
		t.Error("what was told hangs on what was handed in")
	}
}

func FuzzTake(f *testing.F) {
	for _, x := range good {
		f.Add([]byte(x.want))
	}
	f.Fuzz(func(t *testing.T, b []byte) {
		if v, n, ok := value.Take(b); ok && string(value.Put(v)) != string(b[:n]) {
			t.Errorf("%x: %v", b, v)
		}
	})
}
