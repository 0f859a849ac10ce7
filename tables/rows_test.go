package tables

import (
	"math"
	"slices"
	"testing"

	"palimpsest/api"
)

// P11.1: the chapter's example of a row, and its neighbours.
func TestRowExamples(t *testing.T) {
	if b, e := Rows(9, api.Row{Name: "a", Gran: 8}); b != nil || e != api.ErrArg {
		t.Error(b, e)
	}
	if b, e := Rows(9, api.Row{Name: "a", Gran: 9}); string(b) != "\x01a\x09\x00\x00\x00\x00\x00\x00\x00\x00\x00\x00\x00\x00\x00" || e != api.OK {
		t.Error(b, e)
	}
	if b, e := Rows(9); len(b) != 0 || e != api.OK {
		t.Error(b, e)
	}
	if l, e := ReadRows(9, nil, 0); len(l) != 0 || e != api.OK {
		t.Error(l, e)
	}
}

// P11.1: each number of a row stands in its place, the lowest byte first; the next one follows at once.
func TestRowBytes(t *testing.T) {
	l := []api.Row{
		{Name: "first\xff", Gran: 31, Flags: 3, At: 0x0a0b0c00, Len: 0x0d0e0f},
		{Name: "z", Gran: 10},
		{Name: "last", Gran: 9, Flags: 1, At: maxFile, Len: 1 << 24},
	}
	want := "\x06first\xff" + "\x1f" + "\x03" + "\x00\x0c\x0b\x0a\x00\x00\x00\x00" + "\x0f\x0e\x0d\x00" +
		"\x01z" + "\x0a" + "\x00" + "\x00\x00\x00\x00\x00\x00\x00\x00" + "\x00\x00\x00\x00" +
		"\x04last" + "\x09" + "\x01" + "\x00\x00\x00\x10\x00\x00\x00\x00" + "\x00\x00\x00\x01"
	b, e := Rows(10, l...)
	if string(b) != want || e != api.OK {
		t.Fatalf("%q %v, want %q", b, e, want)
	}
	back, e := ReadRows(10, []byte(want), 3)
	if !slices.Equal(back, l) || e != api.OK {
		t.Fatal(back, e)
	}
	rowSide().held(t, 10, l...)
}

// rowJudged holds a row against whether it may be: alone, and as the first and the last one of a list.
func rowJudged(t *testing.T, bits int, x api.Row, may bool) {
	t.Helper()
	s := rowSide()
	if s.held(t, bits, x) != may {
		t.Fatalf("%+v by %d: want %v", x, bits, may)
	}
	other := []api.Row{s.of("some"), s.of("other")}
	if s.held(t, bits, x, other[0], other[1]) != may || s.held(t, bits, other[0], other[1], x) != may {
		t.Fatalf("%+v by %d beside others: want %v", x, bits, may)
	}
}

// P11.1: names that may be, and that may not.
func TestRowNames(t *testing.T) {
	for name, may := range names() {
		rowJudged(t, 9, api.Row{Name: name, Gran: 9}, may)
		rowJudged(t, 12, api.Row{Name: name, Gran: 20, Flags: 3, At: 8192, Len: 5}, may)
	}
}

// P11.1: a granule has from 2^9 to 2^31 bytes, whatever the cluster.
func TestRowGranules(t *testing.T) {
	for bits := 9; bits <= 16; bits++ {
		for gran := -2; gran <= 300; gran++ {
			rowJudged(t, bits, api.Row{Name: "r", Gran: gran}, 9 <= gran && gran <= 31)
		}
	}
	for _, gran := range []int{math.MinInt, math.MinInt + 9, -256 + 9, -1 << 32, 1<<32 + 9, 1<<16 + 9, math.MaxInt} {
		rowJudged(t, 9, api.Row{Name: "r", Gran: gran, Flags: 2, At: 512, Len: 1}, false)
	}
}

// P11.1: flags are RowInUse, RowOn, both, or none.
func TestRowFlags(t *testing.T) {
	for flags := -4; flags <= 300; flags++ {
		rowJudged(t, 9, api.Row{Name: "r", Gran: 9, Flags: flags}, 0 <= flags && flags <= 3)
		rowJudged(t, 9, api.Row{Name: "r", Gran: 31, Flags: flags, At: 512, Len: 1}, 0 <= flags && flags <= 3)
	}
	for _, flags := range []int{math.MinInt, math.MinInt + 1, -256, -255, 1 << 32, 1<<32 + 1, math.MaxInt} {
		rowJudged(t, 9, api.Row{Name: "r", Gran: 9, Flags: flags}, false)
	}
}

// P11.1: a row's bytes have a place and a length, or neither.
func TestRowPlaces(t *testing.T) {
	for bits := 9; bits <= 16; bits++ {
		for at, may := range places(bits) {
			rowJudged(t, bits, api.Row{Name: "r", Gran: 9, At: at, Len: 1}, may)
			rowJudged(t, bits, api.Row{Name: "r", Gran: 31, Flags: 3, At: at, Len: 1 << 24}, may)
			rowJudged(t, bits, api.Row{Name: "r", Gran: 9, At: at, Len: 0}, at == 0)
			rowJudged(t, bits, api.Row{Name: "r", Gran: 9, At: at, Len: -1}, false)
		}
	}
}

// P11.1: a row's bytes are from 1 to 2^24, if there are any.
func TestRowLengths(t *testing.T) {
	for long, may := range map[int]bool{
		1: true, 2: true, 1 << 20: true, 1<<20 + 1: true, 1<<24 - 1: true, 1 << 24: true,
		0: false, -1: false, -1 << 24: false, 1<<24 + 1: false, 1 << 25: false, 1 << 31: false, 1 << 32: false, 1<<32 + 1: false, math.MaxInt: false, math.MinInt: false, math.MinInt + 1: false,
	} {
		rowJudged(t, 9, api.Row{Name: "r", Gran: 9, At: 512, Len: long}, may)
		rowJudged(t, 9, api.Row{Name: "r", Gran: 9, At: 0, Len: long}, long == 0)
		rowJudged(t, 16, api.Row{Name: "r", Gran: 9, At: maxFile, Len: long}, may)
	}
}

// P11.1: of the bytes of a row each number is in turn one that may not be, and at last one that may.
func TestReadRowNumbers(t *testing.T) {
	s := rowSide()
	for _, x := range []api.Row{{Name: "", Gran: 9}, {Name: "a\x00", Gran: 9}, {Name: "\x00", Gran: 9}, {Name: "a", Gran: 0}, {Name: "a", Gran: 8}, {Name: "a", Gran: 32}, {Name: "a", Gran: 255},
		{Name: "a", Gran: 9, Flags: 4}, {Name: "a", Gran: 9, Flags: 5}, {Name: "a", Gran: 9, Flags: 128}, {Name: "a", Gran: 9, Flags: 255},
		{Name: "a", Gran: 9, At: 512}, {Name: "a", Gran: 9, Len: 1}, {Name: "a", Gran: 9, At: 513, Len: 1}, {Name: "a", Gran: 9, At: maxFile + 512, Len: 1}, {Name: "a", Gran: 9, At: -512, Len: 1}, {Name: "a", Gran: 9, At: math.MinInt64, Len: 1},
		{Name: "a", Gran: 9, At: 512, Len: 1<<24 + 1}, {Name: "a", Gran: 9, At: 512, Len: 1 << 31}, {Name: "a", Gran: 9, At: 512, Len: 1<<32 - 1}} {
		for _, l := range [][]api.Row{{x}, {x, s.of("y")}, {s.of("y"), x}} {
			if s.heldBytes(t, 9, s.allLaid(l), len(l)) {
				t.Errorf("%+v is read", l)
			}
		}
	}
	if !s.heldBytes(t, 9, s.laid(api.Row{Name: "a", Gran: 31, Flags: 3, At: 512, Len: 1 << 24}), 1) {
		t.Error("what may be is not read")
	}
}
