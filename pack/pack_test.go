package pack_test

import (
	"testing"

	"rabbet/api"
	"rabbet/pack"
	"rabbet/sample"
)

var codec = sample.Codec{Put: pack.Put, Take: pack.Take}

func TestPutTake(t *testing.T) {
	for _, fault := range codec.Good([]sample.Case{
		{api.Int, sample.Ints(5, 6), "\x0a\x01\x02"}, {api.Int, nil, ""}, {api.Int, sample.Ints(-3, -3), "\x05\x00"}, {api.Bool, sample.Bools(1, 0, 1), "\x00\x01\x05"}, {api.Small, sample.Smalls(-2, 1, 0), "\x03\x02\x2c"},
		{api.Int, sample.Ints(-1<<63, 1<<63-1), "\xff\xff\xff\xff\xff\xff\xff\xff\xff\x01\x40\x00\x00\x00\x00\x00\x00\x00\x00\xff\xff\xff\xff\xff\xff\xff\xff"},
	}) {
		t.Error(fault)
	}
}

func TestPutOfNone(t *testing.T) {
	for _, fault := range codec.Bad([]sample.Case{
		{0, nil, ""}, {5, nil, ""}, {-1, nil, ""}, {api.Int, sample.List(sample.Null()), ""}, {api.Int, sample.Smalls(1), ""}, {api.Small, sample.Smalls(1, 32768), ""},
		{api.Text, nil, ""}, {api.Text, sample.Texts("a"), ""}, {api.Bool, sample.Bools(2), ""},
	}) {
		t.Error(fault)
	}
}

func TestTakeOfNone(t *testing.T) {
	for _, fault := range codec.NotTaken([]sample.None{
		{api.Int, 0, "\x0a\x00"}, {api.Int, 1, ""}, {api.Int, 1, "\x0a"}, {api.Int, 1, "\x0a\x01\x00"}, {api.Int, 2, "\x08\x02\x09"}, {api.Int, 2, "\x0a\x02\x04"}, {api.Int, 2, "\x0a\x01\x06"}, {api.Int, 2, "\x0a\x01\x02\x00"}, {api.Int, -1, ""},
		{api.Int, 2, "\x0a\x41\x02"}, {api.Int, 2, "\x8a\x00\x01\x02"}, {api.Small, 2, "\xfe\xff\x03\x01\x02"}, {api.Bool, 2, "\x00\x02\x08"}, {api.Text, 0, ""}, {0, 0, ""}, {5, 0, ""}, {api.Int, 1001, "\x00\x00"},
		{api.Int, 2, "\xfe\xff\xff\xff\xff\xff\xff\xff\xff\x01\x01\x02"},
	}, api.Int, []byte("\x00\x00")) {
		t.Error(fault)
	}
}
