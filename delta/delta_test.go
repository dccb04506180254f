package delta_test

import (
	"testing"

	"rabbet/api"
	"rabbet/delta"
	"rabbet/sample"
)

var codec = sample.Codec{Put: delta.Put, Take: delta.Take}

func TestPutTake(t *testing.T) {
	for _, fault := range codec.Good([]sample.Case{
		{api.Int, sample.Ints(5, 6), "\x0a\x02"}, {api.Int, nil, ""}, {api.Small, nil, ""}, {api.Int, sample.Ints(3, 3, 1), "\x06\x00\x03"}, {api.Small, sample.Smalls(32767, -32768), "\xfe\xff\x03\xfd\xff\x07"},
		{api.Int, sample.Ints(1<<63-1, -1<<63, 0), "\xfe\xff\xff\xff\xff\xff\xff\xff\xff\x01\x02\xff\xff\xff\xff\xff\xff\xff\xff\xff\x01"},
	}) {
		t.Error(fault)
	}
}

func TestPutOfNone(t *testing.T) {
	for _, fault := range codec.Bad([]sample.Case{
		{0, nil, ""}, {5, nil, ""}, {-1, nil, ""}, {api.Int, sample.List(sample.Null()), ""}, {api.Int, sample.Smalls(1), ""}, {api.Small, sample.Smalls(1, 32768), ""},
		{api.Text, nil, ""}, {api.Bool, nil, ""}, {api.Bool, sample.Bools(1), ""}, {api.Text, sample.Texts("a"), ""},
	}) {
		t.Error(fault)
	}
}

func TestTakeOfNone(t *testing.T) {
	for _, fault := range codec.NotTaken([]sample.None{
		{api.Int, 1, ""}, {api.Int, 0, "\x02"}, {api.Int, 1, "\x02\x02"}, {api.Int, -1, ""}, {api.Int, 1, "\x82\x00"}, {api.Small, 2, "\xfe\xff\x03\x02"}, {api.Bool, 0, ""}, {api.Bool, 1, "\x02"}, {api.Text, 0, ""}, {0, 0, ""}, {5, 0, ""}, {api.Int, 1001, string(make([]byte, 1001))},
	}, api.Int, make([]byte, 1000)) {
		t.Error(fault)
	}
}
