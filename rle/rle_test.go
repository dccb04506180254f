package rle_test

import (
	"slices"
	"strings"
	"testing"

	"rabbet/api"
	"rabbet/rle"
	"rabbet/sample"
)

var codec = sample.Codec{Put: rle.Put, Take: rle.Take}

func TestPutTake(t *testing.T) {
	for _, fault := range codec.Good([]sample.Case{
		{api.Int, sample.Ints(1, 1, 1), "\x03\x02"}, {api.Int, nil, ""}, {api.Text, sample.Texts("a", "a", "b", "a"), "\x02\x01a\x01\x01b\x01\x01a"},
		{api.Bool, sample.Bools(0, 0, 1), "\x02\x00\x01\x01"}, {api.Small, sample.Smalls(-1, -1), "\x02\x01"}, {api.Int, slices.Repeat(sample.Ints(0), 300), "\xac\x02\x00"},
	}) {
		t.Error(fault)
	}
}

func TestPutOfNone(t *testing.T) {
	for _, fault := range codec.Bad([]sample.Case{
		{0, nil, ""}, {5, nil, ""}, {-1, nil, ""}, {api.Int, sample.List(sample.Null()), ""}, {api.Int, sample.Smalls(1), ""}, {api.Small, sample.Smalls(1, 32768), ""},
		{api.Bool, sample.Bools(2), ""}, {api.Text, sample.Texts("a", strings.Repeat("a", 21)), ""},
	}) {
		t.Error(fault)
	}
}

func TestTakeOfNone(t *testing.T) {
	for _, fault := range codec.NotTaken([]sample.None{
		{api.Int, 2, "\x03\x02"}, {api.Int, 4, "\x03\x02"}, {api.Int, 2, "\x01\x02\x01\x02"}, {api.Int, 1, "\x01\x02\x00\x04"}, {api.Int, 0, "\x00\x02"}, {api.Int, 1, ""}, {api.Int, -1, ""}, {api.Int, 1, "\x81\x00\x02"},
		{api.Int, 1, "\x01"}, {api.Int, 1, "\x01\x82\x00"}, {0, 0, ""}, {5, 0, ""}, {api.Bool, 1, "\x01\x02"}, {api.Small, 1, "\x01\x80\x80\x04"}, {api.Text, 1, "\x01\x02a"}, {api.Int, 1001, "\xe9\x07\x00"},
		{api.Int, 5, "\xff\xff\xff\xff\xff\xff\xff\xff\xff\x01\x00"},
	}, api.Int, []byte("\xe8\x07\x00")) {
		t.Error(fault)
	}
}
