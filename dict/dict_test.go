package dict_test

import (
	"strings"
	"testing"

	"rabbet/api"
	"rabbet/dict"
	"rabbet/sample"
)

var codec = sample.Codec{Put: dict.Put, Take: dict.Take}

func TestPutTake(t *testing.T) {
	for _, fault := range codec.Good([]sample.Case{
		{api.Text, sample.Texts("a", "b", "a"), "\x02\x01a\x01b\x02"}, {api.Int, nil, "\x00"}, {api.Int, sample.Ints(7, 7), "\x01\x0e"}, {api.Int, sample.Ints(5, -5, 0, 5), "\x03\x09\x00\x0a\x92"},
		{api.Bool, sample.Bools(1, 0, 1, 1, 0, 0, 0, 0, 1), "\x02\x00\x01\x0d\x01"}, {api.Small, sample.Smalls(4, 3, 2, 1, 0), "\x05\x00\x02\x04\x06\x08\x9c\x02"},
	}) {
		t.Error(fault)
	}
}

func TestPutOfNone(t *testing.T) {
	for _, fault := range codec.Bad([]sample.Case{
		{0, nil, ""}, {5, nil, ""}, {-1, nil, ""}, {api.Int, sample.List(sample.Null()), ""}, {api.Int, sample.Smalls(1), ""}, {api.Small, sample.Smalls(1, 32768), ""},
		{api.Bool, sample.Bools(2), ""}, {api.Text, sample.Texts("a", strings.Repeat("a", 21)), ""},
	}) {
		t.Error(fault)
	}
}

func TestTakeOfNone(t *testing.T) {
	for _, fault := range codec.NotTaken([]sample.None{
		{api.Int, 0, ""}, {api.Int, 0, "\x00\x00"}, {api.Int, 1, "\x00"}, {api.Int, -1, "\x00"}, {api.Int, 0, "\x80\x00"}, {api.Text, 3, "\x02\x01b\x01a\x05"}, {api.Text, 3, "\x02\x01a\x01a\x02"}, {api.Text, 2, "\x02\x01a\x01b\x00"},
		{api.Text, 3, "\x02\x01a\x01b\x0a"}, {api.Text, 3, "\x02\x01a\x01b"}, {api.Text, 3, "\x02\x01a\x01b\x02\x00"}, {api.Int, 4, "\x03\x09\x00\x0a\xd2"}, {api.Int, 2, "\x03\x00\x02\x04\x04"}, {0, 0, "\x00"}, {5, 0, "\x00"},
		{api.Int, 2, "\xff\xff\xff\xff\xff\xff\xff\xff\xff\x01"}, {api.Bool, 2, "\x02\x00\x02\x02"}, {api.Int, 1001, "\x01\x00"},
	}, api.Int, []byte("\x01\x00")) {
		t.Error(fault)
	}
}
