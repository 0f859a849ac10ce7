package lz

import (
	"math"
	"slices"
	"strings"
	"testing"

	"palimpsest/api"
)

// line is a symbol with its first and its last number, and how many more bits it has, as RFC 1951 has them in 3.2.5.
type line struct{ symbol, first, last, width int }

var lengthLines = []line{
	{257, 3, 3, 0}, {258, 4, 4, 0}, {259, 5, 5, 0}, {260, 6, 6, 0}, {261, 7, 7, 0}, {262, 8, 8, 0}, {263, 9, 9, 0}, {264, 10, 10, 0},
	{265, 11, 12, 1}, {266, 13, 14, 1}, {267, 15, 16, 1}, {268, 17, 18, 1},
	{269, 19, 22, 2}, {270, 23, 26, 2}, {271, 27, 30, 2}, {272, 31, 34, 2},
	{273, 35, 42, 3}, {274, 43, 50, 3}, {275, 51, 58, 3}, {276, 59, 66, 3},
	{277, 67, 82, 4}, {278, 83, 98, 4}, {279, 99, 114, 4}, {280, 115, 130, 4},
	{281, 131, 162, 5}, {282, 163, 194, 5}, {283, 195, 226, 5}, {284, 227, 257, 5},
	{285, 258, 258, 0},
}

var distanceLines = []line{
	{0, 1, 1, 0}, {1, 2, 2, 0}, {2, 3, 3, 0}, {3, 4, 4, 0}, {4, 5, 6, 1}, {5, 7, 8, 1},
	{6, 9, 12, 2}, {7, 13, 16, 2}, {8, 17, 24, 3}, {9, 25, 32, 3}, {10, 33, 48, 4}, {11, 49, 64, 4},
	{12, 65, 96, 5}, {13, 97, 128, 5}, {14, 129, 192, 6}, {15, 193, 256, 6}, {16, 257, 384, 7}, {17, 385, 512, 7},
	{18, 513, 768, 8}, {19, 769, 1024, 8}, {20, 1025, 1536, 9}, {21, 1537, 2048, 9}, {22, 2049, 3072, 10}, {23, 3073, 4096, 10},
	{24, 4097, 6144, 11}, {25, 6145, 8192, 11}, {26, 8193, 12288, 12}, {27, 12289, 16384, 12}, {28, 16385, 24576, 13}, {29, 24577, 32768, 13},
}

// kind is the calls of lengths, or of distances, and what they are held against.
type kind struct {
	name        string
	lines       []line
	least, most int
	symbol      func(int) (int, uint64, int, api.Errno)
	of          func(int) (int, int, api.Errno)
}

func kinds() []kind {
	return []kind{{"length", lengthLines, 3, 258, Length, OfLength}, {"distance", distanceLines, 1, 32768, Distance, OfDistance}}
}

// P4.3, P4.4: each length and each distance, with the symbol that RFC 1951 gives it; first and the more bits together are it again.
func TestSymbols(t *testing.T) {
	for _, k := range kinds() {
		next := k.least
		for _, l := range k.lines {
			if first, width, e := k.of(l.symbol); first != l.first || width != l.width || e != api.OK {
				t.Errorf("%s of symbol %d: %d %d %v", k.name, l.symbol, first, width, e)
			}
			for n := l.first; n <= l.last; n++ {
				if n != next {
					t.Fatalf("%s: the lines leave out %d", k.name, next)
				}
				next++
				symbol, more, width, e := k.symbol(n)
				if symbol != l.symbol || more != uint64(n-l.first) || width != l.width || e != api.OK {
					t.Errorf("%s %d: %d %d %d %v", k.name, n, symbol, more, width, e)
				}
				first, same, e := k.of(symbol)
				if first+int(more) != n || same != width || more>>width != 0 || e != api.OK {
					t.Errorf("%s %d: %d and %d of %d bits: %v", k.name, n, first, more, same, e)
				}
			}
		}
		if next != k.most+1 {
			t.Errorf("%s: the lines end at %d", k.name, next)
		}
	}
}

// P4.3: what is no length, no distance, no symbol.
func TestNoSymbols(t *testing.T) {
	for _, k := range kinds() {
		for _, n := range []int{math.MinInt, -258, -1, 0, k.least - 1, k.most + 1, k.most + 2, 1 << 16, 1<<32 + k.least, math.MaxInt} {
			if symbol, more, width, e := k.symbol(n); symbol != 0 || more != 0 || width != 0 || e != api.ErrArg {
				t.Errorf("%s %d: %d %d %d %v", k.name, n, symbol, more, width, e)
			}
		}
		first, last := k.lines[0].symbol, k.lines[len(k.lines)-1].symbol
		for _, s := range []int{math.MinInt, -257, -1, first - 1, last + 1, last + 2, 1<<32 + first, math.MaxInt} {
			if begin, width, e := k.of(s); begin != 0 || width != 0 || e != api.ErrArg {
				t.Errorf("%s of symbol %d: %d %d %v", k.name, s, begin, width, e)
			}
		}
	}
	for _, s := range []int{0, 255, 256, 286, 287} {
		if _, _, e := OfLength(s); e != api.ErrArg {
			t.Errorf("length of symbol %d: %v", s, e)
		}
	}
	for _, s := range []int{30, 31, 257} {
		if _, _, e := OfDistance(s); e != api.ErrArg {
			t.Errorf("distance of symbol %d: %v", s, e)
		}
	}
}

// P4.3: the rows of the chapter.
func TestSymbolsExamples(t *testing.T) {
	for n, want := range map[int][3]int{3: {257, 0, 0}, 258: {285, 0, 0}, 257: {284, 30, 5}} {
		if s, m, w, e := Length(n); [3]int{s, int(m), w} != want || e != api.OK {
			t.Errorf("Length(%d): %d %d %d %v", n, s, m, w, e)
		}
	}
	for n, want := range map[int][3]int{1: {0, 0, 0}, 5: {4, 0, 1}, 32768: {29, 8191, 13}} {
		if s, m, w, e := Distance(n); [3]int{s, int(m), w} != want || e != api.OK {
			t.Errorf("Distance(%d): %d %d %d %v", n, s, m, w, e)
		}
	}
}

// P4.3: Counts, of each byte, each length and each distance.
func TestCounts(t *testing.T) {
	var lengths [286]uint32
	var distances [30]uint32
	lengths[256] = 1
	if a, d, e := Counts(); a != lengths || d != distances || e != api.OK {
		t.Error("of nothing:", a, d, e)
	}
	var l []api.Token
	for c := range 256 {
		l = append(l, slices.Repeat([]api.Token{{Byte: byte(c)}}, c%5)...)
		lengths[c] += uint32(c % 5)
	}
	for i, line := range lengthLines {
		for n := line.first; n <= line.last; n++ {
			d := distanceLines[(i+n)%30]
			l = append(l, match(n, d.first), match(n, d.last))
			lengths[line.symbol] += 2
			distances[d.symbol] += 2
		}
	}
	if a, d, e := Counts(l...); a != lengths || d != distances || e != api.OK {
		t.Error(a, d, e)
	}
	for _, line := range distanceLines {
		for n := line.first; n <= line.last; n++ {
			l = append(l, match(258, n))
			lengths[285]++
			distances[line.symbol]++
		}
	}
	slices.Reverse(l)
	if a, d, e := Counts(l...); a != lengths || d != distances || e != api.OK {
		t.Error(a, d, e)
	}
}

// P4.3: tokens that are none, ahead of too many; matches that begin ahead of all bytes are counted like others.
func TestCountsRefuses(t *testing.T) {
	var a0 [286]uint32
	var d0 [30]uint32
	for _, x := range none() {
		for _, l := range [][]api.Token{{x}, row("ab", x), row(x, "ab")} {
			if a, d, e := Counts(l...); a != a0 || d != d0 || e != api.ErrArg {
				t.Errorf("%v: %v %v %v", l, a, d, e)
			}
		}
	}
	most := make([]api.Token, api.MaxPlain)
	if a, d, e := Counts(most...); a[0] != api.MaxPlain || a[256] != 1 || d != d0 || e != api.OK {
		t.Error(a[0], a[256], d, e)
	}
	more := make([]api.Token, api.MaxPlain+1)
	if a, d, e := Counts(more...); a != a0 || d != d0 || e != api.ErrLong {
		t.Error(a, d, e)
	}
	for _, at := range []int{0, api.MaxPlain} {
		more := make([]api.Token, api.MaxPlain+1)
		more[at] = api.Token{Byte: 'a', Length: 3, Distance: 1}
		if a, d, e := Counts(more...); a != a0 || d != d0 || e != api.ErrArg {
			t.Error(at, a, d, e)
		}
	}
	if a, d, e := Counts(match(3, 32768)); a[257] != 1 || a[256] != 1 || d[29] != 1 || e != api.OK {
		t.Error(a, d, e)
	}
}

// P4.3: the counts of bytes' tokens add up to these, and to the end.
func TestCountsOfTokens(t *testing.T) {
	b := []byte(strings.Repeat("what stood before, told by how far back and how long; ", 20))
	for _, ahead := range []bool{false, true} {
		l := parsed(t, b, ahead)
		a, d, e := Counts(l...)
		sum, back := 0, 0
		for _, n := range a {
			sum += int(n)
		}
		for _, n := range d {
			back += int(n)
		}
		matches := 0
		for _, x := range l {
			if x.Length > 0 {
				matches++
			}
		}
		if sum != len(l)+1 || back != matches || e != api.OK {
			t.Error(ahead, sum, back, len(l), matches, e)
		}
	}
}
