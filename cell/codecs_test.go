package cell_test

import (
	"math/rand"
	"slices"
	"testing"

	"rabbet/api"
	"rabbet/delta"
	"rabbet/dict"
	"rabbet/pack"
	"rabbet/plain"
	"rabbet/rle"
)

// codec is one of the encodings that have values of one type, one by one or together.
type codec struct {
	name  string
	put   func(t int, l []api.Value) ([]byte, bool)
	take  func(t, n int, b []byte) ([]api.Value, bool)
	types []int
}

var codecs = []codec{
	{"plain", plain.Put, plain.Take, []int{api.Small, api.Int, api.Bool, api.Text}},
	{"rle", rle.Put, rle.Take, []int{api.Small, api.Int, api.Bool, api.Text}},
	{"dict", dict.Put, dict.Take, []int{api.Small, api.Int, api.Bool, api.Text}},
	{"pack", pack.Put, pack.Take, []int{api.Small, api.Int, api.Bool}},
	{"delta", delta.Put, delta.Take, []int{api.Small, api.Int}},
}

func some(r *rand.Rand, t int) api.Value {
	v := api.Value{Type: t}
	switch t {
	case api.Text:
		v.S = []string{"", "a", "ab", "b\x00", "twenty letters, just"}[r.Intn(5)]
	case api.Bool:
		v.I = int64(r.Intn(2))
	case api.Small:
		v.I = []int64{-32768, 32767, 0, -1, int64(r.Intn(300))}[r.Intn(5)]
	default:
		v.I = []int64{-1 << 63, 1<<63 - 1, 0, 1, int64(r.Uint64())}[r.Intn(5)]
	}
	return v
}

// TestPutIsTaken: what is put is taken, and only by the right number.
func TestPutIsTaken(t *testing.T) {
	r := rand.New(rand.NewSource(1))
	for _, c := range codecs {
		for range 2000 {
			ty := c.types[r.Intn(len(c.types))]
			var l []api.Value
			for range r.Intn(20) {
				l = append(l, some(r, ty))
			}
			was := slices.Clone(l)
			b, ok := c.put(ty, l)
			if !ok || !slices.Equal(l, was) {
				t.Fatalf("%s: %v is not put, or is changed", c.name, l)
			}
			if got, ok := c.take(ty, len(l), b); !ok || !slices.Equal(got, l) {
				t.Fatalf("%s: %v is taken as %v", c.name, l, got)
			}
			if _, ok := c.take(ty, len(l)+1, b); ok && len(l) > 0 && c.name != "dict" && c.name != "pack" {
				t.Fatalf("%s: %v is taken as one more", c.name, l)
			}
		}
	}
}

// TestWhateverBytes: what is taken is put as just those bytes.
func TestWhateverBytes(t *testing.T) {
	r := rand.New(rand.NewSource(2))
	for _, c := range codecs {
		taken := 0
		for range 200000 {
			b := make([]byte, r.Intn(7))
			for i := range b {
				b[i] = byte(r.Intn(256)) & []byte{3, 7, 255, 131}[r.Intn(4)]
			}
			ty, n := r.Intn(6), r.Intn(6)-1
			l, ok := c.take(ty, n, b)
			if !ok {
				if l != nil {
					t.Fatalf("%s: a list beside a no", c.name)
				}
				continue
			}
			taken++
			if again, ok := c.put(ty, l); !ok || string(again) != string(b) || len(l) != n {
				t.Fatalf("%s: %x of type %d is taken as %v, which is put as %x", c.name, b, ty, l, again)
			}
		}
		if taken < 100 {
			t.Errorf("%s: only %d were taken", c.name, taken)
		}
	}
}

// TestOtherTypes: a type that a codec does not have, and a value that is not of the type.
func TestOtherTypes(t *testing.T) {
	for _, c := range codecs {
		for ty := -1; ty < 7; ty++ {
			has := slices.Contains(c.types, ty)
			b, ok := c.put(ty, nil)
			if ok != has {
				t.Errorf("%s: put of type %d is %v", c.name, ty, ok)
			}
			if _, ok := c.take(ty, 0, b); ok != has {
				t.Errorf("%s: take of type %d is %v", c.name, ty, ok)
			}
			for _, v := range []api.Value{{}, {Type: ty%4 + 1}, {Type: ty, I: 1, S: "a"}, {Type: ty, I: 1 << 40, S: "a"}} {
				if b, ok := c.put(ty, []api.Value{v}); ok || b != nil {
					t.Errorf("%s: %v is put as of type %d", c.name, v, ty)
				}
			}
		}
	}
}
