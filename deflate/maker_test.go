package deflate

import (
	"strings"

	"palimpsest/api"
)

// This file makes streams as texts of bits, of kinds that the package itself does not make, and wrong ones.

// bit is a bool as a bit.
func bit(x bool) string {
	if x {
		return "1"
	}
	return "0"
}

// storedAt is a stored block that begins behind so many bits.
func storedAt(at int, last bool, b []byte) string {
	s := bit(last) + "00"
	for (at+len(s))%8 != 0 {
		s += "0"
	}
	return s + low(len(b), 16) + low(len(b)^0xffff, 16) + text(b)
}

// byteOf and matchOf are tokens.
func byteOf(c byte) api.Token         { return api.Token{Byte: c} }
func matchOf(long, far int) api.Token { return api.Token{Length: long, Distance: far} }

// bytesOf are the bytes of a text as tokens.
func bytesOf(s string) []api.Token {
	var l []api.Token
	for _, c := range []byte(s) {
		l = append(l, byteOf(c))
	}
	return l
}

// symbolOf is which symbol has a number, by RFC 1951's lines, and the number and width of its more bits.
func symbolOf(first, more []int, x int) (symbol, rest, width int) {
	for i := len(first) - 1; ; i-- {
		if first[i] <= x {
			return i, x - first[i], more[i]
		}
	}
}

// tokensBy are tokens and the end of a block, by codes of these lengths.
func tokensBy(symbols, distances []int, l []api.Token) string {
	var s strings.Builder
	of, far := rowsOf(symbols), rowsOf(distances)
	for _, t := range l {
		if t.Length == 0 {
			s.WriteString(of[t.Byte])
			continue
		}
		symbol, rest, width := symbolOf(firstLengths, moreLengths, t.Length)
		s.WriteString(of[257+symbol] + low(rest, width))
		symbol, rest, width = symbolOf(firstDistances, moreDistances, t.Distance)
		s.WriteString(far[symbol] + low(rest, width))
	}
	s.WriteString(of[256])
	return s.String()
}

// fixedBlock is a fixed block of tokens.
func fixedBlock(last bool, l ...api.Token) string {
	symbols, distances := fixedLengths()
	return bit(last) + "10" + tokensBy(symbols, distances, l)
}

// fixedRow is a fixed block whose symbols are told as texts: "s" and a number is a symbol, "d" and a number a distance, all else bits.
func fixedRow(last bool, parts ...string) string {
	symbols, distances := fixedLengths()
	of, far := rowsOf(symbols), rowsOf(distances)
	return bit(last) + "10" + spelt(of, far, parts)
}

// spelt is symbols, distances and bits as one text of bits.
func spelt(of, far []string, parts []string) string {
	s := ""
	for _, p := range parts {
		switch {
		case p != "" && p[0] == 's':
			s += of[whole10(p[1:])]
		case p != "" && p[0] == 'd':
			s += far[whole10(p[1:])]
		default:
			s += p
		}
	}
	return s
}

// whole10 is a number of decimal digits.
func whole10(s string) int {
	x := 0
	for _, c := range s {
		x = 10*x + int(c-'0')
	}
	return x
}

// rep is a symbol of the code of lengths, with the number that its more bits tell.
type rep struct{ symbol, more int }

// dyn is a dynamic block that is to be made. What is nil is made as the rest asks.
type dyn struct {
	last               bool
	symbols, distances []int // as many as are to be told
	ordered            []int // the lengths of the code of lengths, by their symbols
	told               int   // how many of them are told; 0: all 19
	row                []rep // how the lengths stand
}

// anyRow are lengths of the code of lengths by which each row can stand.
func anyRow() []int {
	l := make([]int, 19)
	for i := range l {
		l[i] = 4
		if i > 12 {
			l[i] = 5
		}
	}
	return l
}

// one are so many lengths, these symbols having this one, all else none.
func one(many, n int, symbols ...int) []int {
	l := make([]int, many)
	for _, s := range symbols {
		l[s] = n
	}
	return l
}

// each is a row without repeats.
func each(lengths ...int) []rep {
	var l []rep
	for _, n := range lengths {
		l = append(l, rep{n, 0})
	}
	return l
}

// head is what the block has ahead of its row.
func (d dyn) head() string {
	ordered, told := d.ordered, d.told
	if ordered == nil {
		ordered = anyRow()
	}
	if told == 0 {
		told = 19
	}
	s := bit(d.last) + "01" + low(len(d.symbols)-257, 5) + low(len(d.distances)-1, 5) + low(told-4, 4)
	for _, symbol := range lengthsOrder[:told] {
		s += low(ordered[symbol], 3)
	}
	return s
}

// begun is the block up to its first token.
func (d dyn) begun() string {
	row, ordered := d.row, d.ordered
	if row == nil {
		row = each(append(append([]int{}, d.symbols...), d.distances...)...)
	}
	if ordered == nil {
		ordered = anyRow()
	}
	var s strings.Builder
	s.WriteString(d.head())
	codes := rowsOf(ordered)
	for _, r := range row {
		s.WriteString(codes[r.symbol])
		if r.symbol >= 16 {
			s.WriteString(low(r.more, []int{2, 3, 7}[r.symbol-16]))
		}
	}
	return s.String()
}

// block is the block with these tokens.
func (d dyn) block(l ...api.Token) string {
	return d.begun() + tokensBy(d.symbols, d.distances, l)
}

// spelt is the block with these symbols, distances and bits.
func (d dyn) spelt(parts ...string) string {
	return d.begun() + spelt(rowsOf(d.symbols), rowsOf(d.distances), parts)
}

// ahead is blocks that are not the last one, and tell nothing, of so many bits modulo 8.
func ahead(bits int) string {
	// A dynamic block of no bytes is made longer bit by bit, by taking the end's code among several.
	for n := 1; ; n++ {
		symbols := make([]int, 257)
		symbols[256] = n
		for i := 1; i <= n; i++ {
			symbols[i] = i
		}
		if s := (dyn{symbols: symbols, distances: []int{0}}).block(); len(s)%8 == bits {
			return s
		}
	}
}
