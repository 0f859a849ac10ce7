package deflate

import (
	"fmt"
	"strings"
	"testing"

	"palimpsest/api"
)

// refuses wants a text of bits, at whose end the bytes end too, to be refused so; wherever in a byte it begins, and with other bits behind it.
//
// (Blocks that tell nothing stand ahead of it, so that it ends with a byte.)
func refuses(t *testing.T, name, row string, most int, want api.Errno) {
	t.Helper()
	front := ahead((800000 - len(row)) % 8)
	b := packed(front + row)
	if 8*len(b) != len(front)+len(row) {
		t.Fatalf("%s: %d bits do not end with a byte", name, len(front)+len(row))
	}
	if plain, n, e := Unpack(b, most); plain != nil || n != 0 || e != want {
		t.Errorf("%s: %d bytes, %d, %v, not %v", name, len(plain), n, e, want)
	}
	if l := listed(t, b, most); len(l) != 1 || l[0].To != len(front) || l[0].Bytes != 0 {
		t.Errorf("%s: the blocks are %v", name, l)
	}
	if want != api.ErrBits {
		for _, behind := range []string{"0", "1", strings.Repeat("01", 40), strings.Repeat("1", 80)} {
			if plain, n, e := Unpack(packed(front+row+behind), most); plain != nil || n != 0 || e != want {
				t.Errorf("%s, more behind: %d bytes, %d, %v, not %v", name, len(plain), n, e, want)
			}
		}
	}
}

// P5.2: too few bits, at each place of a block of each kind, whatever it has told till then.
func TestTooFewBitsAtEachPlace(t *testing.T) {
	fixed := fixedBlock(true, append(bytesOf("abc\xff"), matchOf(3, 1), matchOf(257, 4), matchOf(20, 250))...)
	for n := range len(fixed) {
		refuses(t, fmt.Sprint("fixed, ", n), fixed[:n], 1000, api.ErrBits)
	}
	symbols := append(one(257, 2, 'a', 'b', 256), make([]int, 29)...)
	symbols[284] = 2
	dynamic := dyn{last: true, symbols: symbols, distances: []int{0, 1, 0, 0, 1}, row: append([]rep{{18, 86}, {2, 0}, {2, 0}, {18, 127}, {17, 7}, {17, 6}, {2, 0}, {18, 16}, {2, 0}}, each(0, 0, 1, 0, 0, 1)...)}.block(append(bytesOf("abba"), matchOf(230, 2), matchOf(250, 6))...)
	if want := byWords(packed(dynamic), 1000); want.e != api.OK || len(want.plain) != 484 {
		t.Fatal(want.e, len(want.plain))
	}
	for n := range len(dynamic) {
		refuses(t, fmt.Sprint("dynamic, ", n), dynamic[:n], 1000, api.ErrBits)
	}
	for n := range 3 {
		refuses(t, fmt.Sprint("stored, ", n), storedAt(0, true, nil)[:n], 1000, api.ErrBits)
	}
	stored := storedAt(0, true, []byte("stored"))
	for n := 1; n < len(stored)/8; n++ {
		refuses(t, fmt.Sprint("stored, ", n, " bytes"), stored[:8*n], 1000, api.ErrBits)
	}
}

// P5.2: the kind 3, as the first block or a later one, last or not.
func TestKind3(t *testing.T) {
	for _, last := range []string{"0", "1"} {
		refuses(t, "kind 3", last+"11", 9, api.ErrBlock)
		refuses(t, "kind 3 of a bound of nothing", last+"11", 0, api.ErrBlock)
		refuses(t, "half of kind 3", last+"1", 9, api.ErrBits)
	}
	b := packed(fixedBlock(false, bytesOf("abc")...) + "011")
	if l := listed(t, b, 3); len(l) != 1 || l[0].Bytes != 3 {
		t.Error(l)
	}
	if _, _, e := Unpack(b, 2); e != api.ErrLarge {
		t.Error(e)
	}
}

// P5.2: of a stored block ErrBits of its numbers, ErrBlock, ErrLarge, ErrBits of its bytes, in this order.
func TestStoredRefused(t *testing.T) {
	head := "10000000"
	for i := range 32 {
		for _, n := range []int{0, 1, 5, 0xffff, 0x1234} {
			numbers := []byte(low(n, 16) + low(n^0xffff, 16))
			numbers[i] ^= 1
			refuses(t, fmt.Sprint("numbers of ", n, " bent at ", i), head+string(numbers), 3, api.ErrBlock)
			refuses(t, fmt.Sprint("numbers of ", n, " bent at ", i, " cut"), head+string(numbers[:24]), 3, api.ErrBits)
		}
	}
	refuses(t, "both numbers the same", head+low(7, 16)+low(7, 16), 3, api.ErrBlock)
	for _, n := range []int{1, 4, 300, 65535} {
		numbers := low(n, 16) + low(n^0xffff, 16)
		refuses(t, fmt.Sprint(n, " bytes that are not there"), head+numbers, n, api.ErrBits)
		refuses(t, fmt.Sprint(n, " bytes, one of them not there"), head+numbers+strings.Repeat("00001111", n-1), n, api.ErrBits)
		refuses(t, fmt.Sprint(n, " bytes that are not there and too many"), head+numbers, n-1, api.ErrLarge)
		refuses(t, fmt.Sprint(n, " bytes that are there and too many"), head+numbers+strings.Repeat("00001111", n), n-1, api.ErrLarge)
	}
	ab := fixedBlock(false, bytesOf("ab")...)
	b := packed(ab + storedAt(len(ab), true, []byte("cde")))
	for most, want := range []api.Errno{api.ErrLarge, api.ErrLarge, api.ErrLarge, api.ErrLarge, api.ErrLarge, api.OK, api.OK} {
		if _, _, e := Unpack(b, most); e != want {
			t.Errorf("%d: %v", most, e)
		}
	}
}

// P5.2: the three numbers of a dynamic block are looked at when all three are there.
func TestTooManySymbolsOrDistances(t *testing.T) {
	for symbols := range 32 {
		for distances := range 32 {
			row := "101" + low(symbols, 5) + low(distances, 5) + low(7, 4)
			want := api.ErrBits
			if symbols > 29 || distances > 29 {
				want = api.ErrCodes
			}
			refuses(t, fmt.Sprint(257+symbols, " symbols, ", 1+distances, " distances"), row, 9, want)
			for _, cut := range []int{1, 4, 5, 9, 10} {
				refuses(t, fmt.Sprint(257+symbols, " symbols, ", 1+distances, " distances, cut"), row[:len(row)-cut], 9, api.ErrBits)
			}
		}
	}
}

// P5.2: codes of lengths that may not be, as soon as their lengths are there.
func TestCodeOfLengthsRefused(t *testing.T) {
	plain := dyn{last: true, symbols: make([]int, 257), distances: make([]int, 1)}
	for _, x := range []struct {
		name    string
		ordered []int
		want    api.Errno
	}{
		{"none", make([]int, 19), api.ErrCodes},
		{"one of 1 bit", one(19, 1, 3), api.ErrBits},
		{"one of 2 bits", one(19, 2, 3), api.ErrCodes},
		{"one of 7 bits", one(19, 7, 18), api.ErrCodes},
		{"two of 1 bit", one(19, 1, 0, 18), api.ErrBits},
		{"three of 1 bit", one(19, 1, 0, 7, 18), api.ErrCodes},
		{"two of 2 bits", one(19, 2, 0, 18), api.ErrCodes},
		{"three of 2 bits", one(19, 2, 0, 7, 18), api.ErrCodes},
		{"four of 2 bits", one(19, 2, 0, 7, 15, 18), api.ErrBits},
		{"five of 2 bits", one(19, 2, 0, 1, 7, 15, 18), api.ErrCodes},
		{"all of 7 bits", one(19, 7, 0, 1, 2, 3, 4, 5, 6, 7, 8, 9, 10, 11, 12, 13, 14, 15, 16, 17, 18), api.ErrCodes},
		{"any row", anyRow(), api.ErrBits},
	} {
		plain.ordered = x.ordered
		row := plain.head()
		refuses(t, x.name, row, 9, x.want)
		refuses(t, x.name+", cut", row[:len(row)-1], 9, api.ErrBits)
	}
	// What is not told of the code of lengths is noughts.
	for told := 4; told <= 19; told++ {
		for i, symbol := range lengthsOrder {
			want := api.ErrCodes
			if i < told {
				want = api.ErrBits
			}
			refuses(t, fmt.Sprint("one of 1 bit, at ", i, " of ", told), dyn{symbols: make([]int, 257), distances: make([]int, 1), ordered: one(19, 1, symbol), told: told}.head(), 9, want)
		}
	}
}

// P5.2: repeats where there is none ahead, as soon as they are there, and beyond the row.
func TestRepeatsRefused(t *testing.T) {
	for _, many := range []int{257, 286} {
		for _, far := range []int{1, 2, 30} {
			d := dyn{last: true, symbols: make([]int, many), distances: make([]int, far)}
			d.row = []rep{{16, 0}}
			row := d.begun()
			refuses(t, "16 at the beginning", row, 9, api.ErrCodes)
			refuses(t, "16 at the beginning, without its bits", row[:len(row)-2], 9, api.ErrCodes)
			refuses(t, "16 at the beginning, half of it", row[:len(row)-3], 9, api.ErrBits)
			beyond(t, d, many+far)
		}
	}
}

// beyond wants repeats to be refused that go beyond a row of so many.
func beyond(t *testing.T, d dyn, many int) {
	t.Helper()
	for _, k := range []struct{ symbol, least, most, width int }{{16, 3, 6, 2}, {17, 3, 10, 3}, {18, 11, 138, 7}} {
		for _, n := range []int{k.least, k.least + 1, (k.least + k.most) / 2, k.most} {
			for left := max(1, n-2); left <= n+1; left++ {
				// A code for 256 there is not, so that a row that is whole is refused too, once it is.
				d.row = each(make([]int, many-left)...)
				d.row = append(d.row, rep{k.symbol, n - k.least})
				want := api.ErrCodes
				if left > n {
					want = api.ErrBits
				}
				row := d.begun()
				name := fmt.Sprint(k.symbol, " of ", n, " where ", left, " are left of ", many)
				refuses(t, name, row, 9, want)
				refuses(t, name+", without a bit", row[:len(row)-1], 9, api.ErrBits)
			}
		}
	}
}

// P5.2: codes that may not be, as soon as the row is there.
func TestCodesRefused(t *testing.T) {
	good := one(257, 1, 'a', 256)
	for _, x := range []struct {
		name               string
		symbols, distances []int
		want               api.Errno
	}{
		{"good", good, []int{0}, api.ErrBits},
		{"no code at all", make([]int, 257), []int{0}, api.ErrCodes},
		{"no code for 256, whole", one(258, 1, 'a', 257), []int{0}, api.ErrCodes},
		{"no code for 256, one symbol", one(257, 1, 'a'), []int{0}, api.ErrCodes},
		{"no code for 256, whole with distances", one(257, 1, 'a'), []int{1}, api.ErrCodes},
		{"256 alone of 1 bit", one(257, 1, 256), []int{0}, api.ErrBits},
		{"256 alone of 2 bits", one(257, 2, 256), []int{0}, api.ErrCodes},
		{"256 alone of 15 bits", one(257, 15, 256), []int{0}, api.ErrCodes},
		{"two of 2 bits", one(257, 2, 'a', 256), []int{0}, api.ErrCodes},
		{"three of 2 bits", one(257, 2, 'a', 'b', 256), []int{0}, api.ErrCodes},
		{"four of 2 bits", one(257, 2, 'a', 'b', 'c', 256), []int{0}, api.ErrBits},
		{"five of 2 bits", one(257, 2, 'a', 'b', 'c', 'd', 256), []int{0}, api.ErrCodes},
		{"three of 1 bit", one(257, 1, 'a', 'b', 256), []int{0}, api.ErrCodes},
		{"all of 8 bits", full(257, 8), []int{0}, api.ErrCodes},
		{"all of 9 bits", full(257, 9), []int{0}, api.ErrCodes},
		{"no distance of two", good, []int{0, 0}, api.ErrBits},
		{"one distance of 1 bit", good, []int{0, 1}, api.ErrBits},
		{"one distance of 2 bits", good, []int{0, 2}, api.ErrCodes},
		{"one distance of 15 bits", good, []int{15}, api.ErrCodes},
		{"two distances of 1 bit", good, []int{1, 0, 1}, api.ErrBits},
		{"two distances of 2 bits", good, []int{2, 0, 2}, api.ErrCodes},
		{"three distances of 1 bit", good, []int{1, 1, 1}, api.ErrCodes},
		{"three distances of 2 bits", good, []int{2, 2, 2}, api.ErrCodes},
		{"four distances of 2 bits", good, []int{2, 2, 2, 2}, api.ErrBits},
		{"30 distances of 5 bits", good, full(30, 5), api.ErrCodes},
		{"30 distances of 4 bits", good, full(30, 4), api.ErrCodes},
		{"a whole code of both together", one(257, 1, 256), []int{2, 2}, api.ErrCodes},
	} {
		row := dyn{last: true, symbols: x.symbols, distances: x.distances}.begun()
		refuses(t, x.name, row, 9, x.want)
		refuses(t, x.name+", cut", row[:len(row)-1], 9, api.ErrBits)
	}
}

// full are so many lengths, all of them n.
func full(many, n int) []int {
	l := make([]int, many)
	for i := range l {
		l[i] = n
	}
	return l
}

// P5.2: bits that are no code.
func TestNoCode(t *testing.T) {
	end := dyn{last: true, symbols: one(257, 1, 256), distances: []int{0}}
	refuses(t, "not the end", end.spelt("1"), 9, api.ErrCode)
	pair := one(286, 2, 'a', 256, 257, 285)
	bare := dyn{last: true, symbols: pair, distances: make([]int, 3)}
	refuses(t, "a match without distances, at the end of the bits", bare.spelt("s97", "s257"), 9, api.ErrCode)
	refuses(t, "a longest match without distances", bare.spelt("s285"), 0, api.ErrCode)
	lone := dyn{last: true, symbols: pair, distances: []int{0, 0, 1}}
	refuses(t, "a match of no distance's bit", lone.spelt("s97", "s257", "1"), 9, api.ErrCode)
	refuses(t, "a match cut ahead of its distance", lone.spelt("s97", "s257"), 9, api.ErrBits)
	refuses(t, "a match of the one distance", lone.spelt("s97", "s257", "0"), 9, api.ErrFar)
}

// P5.2: symbols and distances that there are not, and 284 with the more bits 31, in the order of a match.
func TestNoSymbol(t *testing.T) {
	for _, symbol := range []string{"s286", "s287"} {
		refuses(t, symbol, fixedRow(true, symbol), 0, api.ErrSymbol)
		refuses(t, symbol+" behind bytes", fixedRow(true, "s97", "s98", symbol), 2, api.ErrSymbol)
		refuses(t, symbol+" ahead of a distance", fixedRow(true, symbol, "d30"), 0, api.ErrSymbol)
	}
	for _, distance := range []string{"d30", "d31"} {
		refuses(t, distance, fixedRow(true, "s257", distance), 0, api.ErrSymbol)
		refuses(t, distance+" of a long one", fixedRow(true, "s284", "01111", distance), 0, api.ErrSymbol)
		refuses(t, distance+" of the longest", fixedRow(true, "s97", "s285", distance), 1, api.ErrSymbol)
	}
	refuses(t, "284 and 31", fixedRow(true, "s284", "11111"), 0, api.ErrSymbol)
	refuses(t, "284 and 31, ahead of its distance", fixedRow(true, "s284", "11111", "d31"), 0, api.ErrSymbol)
	refuses(t, "284 and four of its bits", fixedRow(true, "s284", "1111"), 0, api.ErrBits)
	refuses(t, "284 and 30, cut", fixedRow(true, "s284", "01111", "0000"), 0, api.ErrBits)
	lone := dyn{last: true, symbols: one(286, 2, 'a', 256, 284, 283), distances: []int{0}}
	refuses(t, "284 and 31, ahead of no code", lone.spelt("s284", "11111"), 0, api.ErrSymbol)
	refuses(t, "284 and 30, with no code", lone.spelt("s284", "01111"), 0, api.ErrCode)
	refuses(t, "283 and 31, with no code", lone.spelt("s283", "11111"), 0, api.ErrCode)
}

// P5.2: distances beyond what was told, ahead of more bytes than the bound, behind all of the distance.
func TestTooFarAndTooLarge(t *testing.T) {
	refuses(t, "far at the beginning", fixedRow(true, "s257", "d0"), 0, api.ErrFar)
	refuses(t, "far at the beginning, with room", fixedRow(true, "s257", "d0"), 9, api.ErrFar)
	refuses(t, "far behind one", fixedRow(true, "s97", "s257", "d1"), 1, api.ErrFar)
	refuses(t, "far by its more bits", fixedRow(true, "s97", "s285", "d2"), 1, api.ErrFar)
	refuses(t, "far, cut ahead of its more bits", fixedRow(true, "s97", "s257", "d29"), 1, api.ErrBits)
	refuses(t, "far, cut in its more bits", fixedRow(true, "s97", "s257", "d29", low(0, 12)), 1, api.ErrBits)
	refuses(t, "the farthest", fixedRow(true, "s97", "s257", "d29", low(8191, 13)), 1, api.ErrFar)
	refuses(t, "large by a byte", fixedRow(true, "s97", "s98"), 1, api.ErrLarge)
	refuses(t, "large by the first byte", fixedRow(true, "s0"), 0, api.ErrLarge)
	refuses(t, "large by a byte, cut within it", fixedRow(true, "s97", "0011"), 1, api.ErrBits)
	for most := range 12 {
		want := api.ErrLarge
		if most >= 11 {
			want = api.ErrBits
		}
		refuses(t, fmt.Sprint("a match, bound ", most), fixedRow(true, "s97", "s264", "d0"), most, want)
	}
	told := 300
	for far := told - 1; far <= told+1; far++ {
		b := packed(fixedBlock(true, append(bytesOf(strings.Repeat("x", told)), matchOf(3, far))...))
		want := api.OK
		if far > told {
			want = api.ErrFar
		}
		for _, most := range []int{told + 3, told + 2} {
			if most == told+2 && far <= told {
				want = api.ErrLarge
			}
			if _, _, e := Unpack(b, most); e != want {
				t.Errorf("%d back of %d, bound %d: %v, not %v", far, told, most, e, want)
			}
		}
	}
}
