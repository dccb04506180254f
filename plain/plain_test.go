package plain_test

import (
	"strings"
	"testing"

	"rabbet/api"
	"rabbet/plain"
	"rabbet/sample"
)

var codec = sample.Codec{Put: plain.Put, Take: plain.Take}

func TestPutTake(t *testing.T) {
	for _, fault := range codec.Good([]sample.Case{
		{api.Int, sample.Ints(1), "\x02"}, {api.Int, nil, ""}, {api.Text, nil, ""}, {api.Int, sample.Ints(-1, 150, -1<<63), "\x01\xac\x02\xff\xff\xff\xff\xff\xff\xff\xff\xff\x01"},
		{api.Small, sample.Smalls(32767, -32768, 0), "\xfe\xff\x03\xff\xff\x03\x00"}, {api.Bool, sample.Bools(1, 0), "\x01\x00"}, {api.Text, sample.Texts("ab", "", "c"), "\x02ab\x00\x01c"},
	}) {
		t.Error(fault)
	}
}

func TestPutOfNone(t *testing.T) {
	for _, fault := range codec.Bad([]sample.Case{
		{0, nil, ""}, {5, nil, ""}, {-1, nil, ""}, {api.Int, sample.List(sample.Null()), ""}, {api.Int, sample.Smalls(1), ""}, {api.Bool, sample.Bools(2), ""}, {api.Text, sample.Texts("a", strings.Repeat("a", 21)), ""},
	}) {
		t.Error(fault)
	}
}

func TestTakeOfNone(t *testing.T) {
	for _, fault := range codec.NotTaken([]sample.None{
		{api.Int, 2, "\x02"}, {api.Int, 1, "\x02\x02"}, {api.Int, 0, "\x02"}, {api.Int, 1, ""}, {api.Int, -1, ""}, {api.Int, 1, "\x82\x00"}, {0, 0, ""}, {5, 0, ""}, {5, 1, "\x00"},
		{api.Small, 1, "\x80\x80\x04"}, {api.Bool, 1, "\x02"}, {api.Text, 1, "\x02a"}, {api.Text, 1, "\x15" + strings.Repeat("a", 21)}, {api.Bool, 1001, strings.Repeat("\x00", 1001)},
	}, api.Bool, make([]byte, 1000)) {
		t.Error(fault)
	}
}
