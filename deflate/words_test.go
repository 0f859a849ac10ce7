package deflate

import (
	"strings"
	"sync"

	"palimpsest/api"
)

// This file goes through streams once more, by the words of the chapter and RFC 1951's tables alone, for the tests to hold the package against.

// Of each length's symbol, from 257 on, and of each distance's: the first number, and how many more bits (RFC 1951, 3.2.5).
var (
	firstLengths   = []int{3, 4, 5, 6, 7, 8, 9, 10, 11, 13, 15, 17, 19, 23, 27, 31, 35, 43, 51, 59, 67, 83, 99, 115, 131, 163, 195, 227, 258}
	moreLengths    = []int{0, 0, 0, 0, 0, 0, 0, 0, 1, 1, 1, 1, 2, 2, 2, 2, 3, 3, 3, 3, 4, 4, 4, 4, 5, 5, 5, 5, 0}
	firstDistances = []int{1, 2, 3, 4, 5, 7, 9, 13, 17, 25, 33, 49, 65, 97, 129, 193, 257, 385, 513, 769, 1025, 1537, 2049, 3073, 4097, 6145, 8193, 12289, 16385, 24577}
	moreDistances  = []int{0, 0, 0, 0, 1, 1, 2, 2, 3, 3, 4, 4, 5, 5, 6, 6, 7, 7, 8, 8, 9, 9, 10, 10, 11, 11, 12, 12, 13, 13}
	lengthsOrder   = []int{16, 17, 18, 0, 8, 7, 9, 6, 10, 5, 11, 4, 12, 3, 13, 2, 14, 1, 15}
)

// fixedLengths are the lengths of the fixed code, line by line as RFC 1951 has them in 3.2.6.
func fixedLengths() (symbols, distances []int) {
	for _, line := range []struct{ from, to, n int }{{0, 143, 8}, {144, 255, 9}, {256, 279, 7}, {280, 287, 8}} {
		for range line.to - line.from + 1 {
			symbols = append(symbols, line.n)
		}
	}
	for range 32 {
		distances = append(distances, 5)
	}
	return symbols, distances
}

// rowsOf are the codes of lengths as texts of bits: the shorter ones first, of one length by rising symbols.
func rowsOf(lengths []int) []string {
	codes := make([]string, len(lengths))
	next, was := uint64(0), 0
	for n := 1; n <= 15; n++ {
		for symbol, long := range lengths {
			if long != n {
				continue
			}
			next <<= n - was
			was = n
			codes[symbol] = high(next, n)
			next++
		}
	}
	return codes
}

// high is a number of n bits as a text of bits, the highest one first.
func high(x uint64, n int) string {
	s := make([]byte, n)
	for i := range s {
		s[i] = '0' + byte(x>>(n-1-i)&1)
	}
	return string(s)
}

// low is a number of n bits as a text of bits, the lowest one first.
func low(x, n int) string {
	s := make([]byte, n)
	for i := range s {
		s[i] = '0' + byte(x>>i&1)
	}
	return string(s)
}

// packed is a text of bits as bytes, bits 0 behind them up to where a byte begins.
func packed(row string) []byte {
	b := make([]byte, (len(row)+7)/8)
	for i := range len(row) {
		b[i/8] |= (row[i] - '0') << (i % 8)
	}
	return b
}

// text is bytes as a text of bits.
func text(b []byte) string {
	var s strings.Builder
	for _, x := range b {
		s.WriteString(low(int(x), 8))
	}
	return s.String()
}

// taker goes through a text of bits.
type taker struct {
	row   string
	at    int
	most  int
	plain []byte
}

// told is what a stream tells.
type told struct {
	plain  []byte
	n      int
	blocks []api.Block
	e      api.Errno
}

// byWords is what is to be told of a stream, and its whole blocks.
func byWords(b []byte, most int) told {
	t := &taker{row: text(b), most: most}
	var out told
	for {
		from, was := t.at, len(t.plain)
		last, kind, e := t.block()
		if e != api.OK {
			out.e = e
			return out
		}
		out.blocks = append(out.blocks, api.Block{Kind: api.BlockKind(kind), Last: last, From: from, To: t.at, Bytes: len(t.plain) - was})
		if last {
			out.plain, out.n = t.plain, (t.at+7)/8
			return out
		}
	}
}

// number takes a number of n bits.
func (t *taker) number(n int) (int, api.Errno) {
	if t.at+n > len(t.row) {
		return 0, api.ErrBits
	}
	x := 0
	for i := range n {
		x |= int(t.row[t.at+i]-'0') << i
	}
	t.at += n
	return x, api.OK
}

// book finds symbols by their codes.
type book struct {
	of     map[string]int
	begins map[string]bool
}

// bookOf is the book of lengths.
func bookOf(lengths []int) book {
	k := book{map[string]int{}, map[string]bool{}}
	for symbol, code := range rowsOf(lengths) {
		if code == "" {
			continue
		}
		k.of[code] = symbol
		for n := range len(code) {
			k.begins[code[:n]] = true
		}
	}
	return k
}

// fixedBooks are the books of the fixed code, made once.
var fixedBooks = sync.OnceValue(func() [2]book {
	symbols, distances := fixedLengths()
	return [2]book{bookOf(symbols), bookOf(distances)}
})

// symbol takes a symbol, bit by bit.
func (t *taker) symbol(k book) (int, api.Errno) {
	for n := 0; k.begins[t.row[t.at:t.at+n]]; {
		if t.at+n == len(t.row) {
			return 0, api.ErrBits
		}
		n++
		if symbol, ok := k.of[t.row[t.at:t.at+n]]; ok {
			t.at += n
			return symbol, api.OK
		}
	}
	return 0, api.ErrCode
}

// block goes through a block.
func (t *taker) block() (last bool, kind int, e api.Errno) {
	x, e := t.number(1)
	if e != api.OK {
		return false, 0, e
	}
	kind, e = t.number(2)
	if e != api.OK {
		return false, 0, e
	}
	switch kind {
	case 0:
		e = t.stored()
	case 1:
		k := fixedBooks()
		e = t.symbols(k[0], k[1])
	case 2:
		e = t.dynamic()
	case 3:
		e = api.ErrBlock
	}
	return x == 1, kind, e
}

// stored goes through a stored block.
func (t *taker) stored() api.Errno {
	for t.at%8 != 0 {
		t.at++
	}
	n, e := t.number(16)
	if e != api.OK {
		return e
	}
	turned, e := t.number(16)
	if e != api.OK {
		return e
	}
	if n+turned != 65535 || n&turned != 0 {
		return api.ErrBlock
	}
	if len(t.plain)+n > t.most {
		return api.ErrLarge
	}
	if t.at+8*n > len(t.row) {
		return api.ErrBits
	}
	for range n {
		x, _ := t.number(8)
		t.plain = append(t.plain, byte(x))
	}
	return api.OK
}

// may tells whether a code may be.
func may(lengths []int) bool {
	sum, many := 0, 0
	for _, n := range lengths {
		if n > 0 {
			sum += 32768 >> n
			many++
		}
	}
	return sum == 32768 || many == 1 && sum == 16384
}

// none tells whether no symbol has a code.
func none(lengths []int) bool {
	for _, n := range lengths {
		if n > 0 {
			return false
		}
	}
	return true
}

// dynamic goes through a dynamic block.
func (t *taker) dynamic() api.Errno {
	var three [3]int
	for i, n := range []int{5, 5, 4} {
		x, e := t.number(n)
		if e != api.OK {
			return e
		}
		three[i] = x
	}
	symbols, distances, ordered := 257+three[0], 1+three[1], 4+three[2]
	if symbols > 286 || distances > 30 {
		return api.ErrCodes
	}
	lengths := make([]int, 19)
	for i := range ordered {
		x, e := t.number(3)
		if e != api.OK {
			return e
		}
		lengths[lengthsOrder[i]] = x
	}
	if !may(lengths) {
		return api.ErrCodes
	}
	row, e := t.row1(bookOf(lengths), symbols+distances)
	if e != api.OK {
		return e
	}
	of, far := row[:symbols], row[symbols:]
	if of[256] == 0 || !may(of) || !may(far) && !none(far) {
		return api.ErrCodes
	}
	return t.symbols(bookOf(of), bookOf(far))
}

// row1 takes the one row of symbols' and distances' lengths.
func (t *taker) row1(k book, many int) ([]int, api.Errno) {
	var row []int
	for len(row) < many {
		symbol, e := t.symbol(k)
		if e != api.OK {
			return nil, e
		}
		if symbol < 16 {
			row = append(row, symbol)
			continue
		}
		if symbol == 16 && len(row) == 0 {
			return nil, api.ErrCodes
		}
		n, e := t.number(map[int]int{16: 2, 17: 3, 18: 7}[symbol])
		if e != api.OK {
			return nil, e
		}
		n += map[int]int{16: 3, 17: 3, 18: 11}[symbol]
		what := 0
		if symbol == 16 {
			what = row[len(row)-1]
		}
		if len(row)+n > many {
			return nil, api.ErrCodes
		}
		for range n {
			row = append(row, what)
		}
	}
	return row, api.OK
}

// symbols goes through bytes and matches, up to the block's end.
func (t *taker) symbols(of, far book) api.Errno {
	for {
		symbol, e := t.symbol(of)
		if e != api.OK {
			return e
		}
		if symbol == 256 {
			return api.OK
		}
		if symbol < 256 {
			if len(t.plain) == t.most {
				return api.ErrLarge
			}
			t.plain = append(t.plain, byte(symbol))
			continue
		}
		if e := t.match(symbol, far); e != api.OK {
			return e
		}
	}
}

// match goes through a match behind its symbol.
func (t *taker) match(symbol int, far book) api.Errno {
	if symbol > 285 {
		return api.ErrSymbol
	}
	more, e := t.number(moreLengths[symbol-257])
	if e != api.OK {
		return e
	}
	if symbol == 284 && more == 31 {
		return api.ErrSymbol
	}
	length := firstLengths[symbol-257] + more
	symbol, e = t.symbol(far)
	if e != api.OK {
		return e
	}
	if symbol > 29 {
		return api.ErrSymbol
	}
	more, e = t.number(moreDistances[symbol])
	if e != api.OK {
		return e
	}
	distance := firstDistances[symbol] + more
	if distance > len(t.plain) {
		return api.ErrFar
	}
	if len(t.plain)+length > t.most {
		return api.ErrLarge
	}
	for range length {
		t.plain = append(t.plain, t.plain[len(t.plain)-distance])
	}
	return api.OK
}
