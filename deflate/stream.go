package deflate

import (
	"palimpsest/api"
	"palimpsest/bits"
	"palimpsest/huff"
	"palimpsest/lz"
)

// longest is how many bytes a match has at most.
const longest = 258

// stream is a stream that is gone through. Its methods give up where an error is come to.
type stream struct {
	from  *bits.Reader
	most  int
	plain []byte // what was told
	fixed codes  // kept behind the first fixed block, since there may be very many
}

// kinds are the ways in which blocks are gone through, by the numbers of their kinds.
func kinds() [3]func(*stream) {
	return [3]func(*stream){
		api.BlockStored:  (*stream).ofStored,
		api.BlockFixed:   (*stream).ofFixed,
		api.BlockDynamic: (*stream).ofDynamic,
	}
}

// all goes on up to the stream's end: how many bytes it has.
func (s *stream) all() int {
	for !s.block().Last {
	}
	return (s.from.At() + 7) / 8
}

// block goes through the next block.
func (s *stream) block() api.Block {
	from, told := s.from.At(), len(s.plain)
	last, kind := s.take(1) == 1, s.take(2)
	ways := kinds()
	if kind >= len(ways) {
		panic(api.ErrBlock)
	}
	ways[kind](s)
	return api.Block{Kind: api.BlockKind(kind), Last: last, From: from, To: s.from.At(), Bytes: len(s.plain) - told}
}

// ofStored goes through what a stored block has behind its kind.
func (s *stream) ofStored() {
	hold(s.from.Align())
	n, turned := s.take(16), s.take(16)
	if turned != turn(n) {
		panic(api.ErrBlock)
	}
	s.room(n)
	s.plain = append(s.plain, sure(s.from.Raw(n))...)
}

// ofFixed goes through what a fixed block has behind its kind.
func (s *stream) ofFixed() {
	if s.fixed.symbols == nil {
		s.fixed = fixedCodes()
	}
	s.tokens(s.fixed)
}

// ofDynamic goes through what a dynamic block has behind its kind.
func (s *stream) ofDynamic() {
	symbols, distances, ordered := leastSymbols+s.take(5), leastDistances+s.take(5), leastOrdered+s.take(4)
	if symbols > mostSymbols || distances > mostDistances {
		panic(api.ErrCodes)
	}
	row := s.row(s.codeOfLengths(ordered), symbols+distances)
	if row[end] == 0 || !mayBe(row[:symbols]) {
		panic(api.ErrCodes)
	}
	if far := row[symbols:]; coded(far) > 0 && !mayBe(far) {
		panic(api.ErrCodes)
	}
	s.tokens(codesOf(row[:symbols], row[symbols:]))
}

// codeOfLengths takes so many lengths of the code of lengths.
func (s *stream) codeOfLengths(ordered int) *huff.Code {
	var lengths [19]int
	symbols := order()
	for i := range ordered {
		lengths[symbols[i]] = s.take(3)
	}
	if !mayBe(lengths[:]) {
		panic(api.ErrCodes)
	}
	return sure(huff.New(lengths[:]...))
}

// row takes so many lengths, by the code of lengths.
func (s *stream) row(c *huff.Code, many int) []int {
	var row []int
lengths:
	for {
		symbol := sure(c.Take(s.from))
		length := symbol
		switch symbol {
		case again:
			if len(row) == 0 {
				panic(api.ErrCodes)
			}
			length = row[len(row)-1]
		case noughts, allNoughts:
			length = 0
		}
		least, width := times(symbol)
		for range least + s.take(width) {
			row = append(row, length)
		}
		switch {
		case len(row) > many:
			panic(api.ErrCodes)
		case len(row) == many:
			break lengths
		}
	}
	return row
}

// tokens goes through the tokens of a block, up to its end.
func (s *stream) tokens(c codes) {
	for {
		symbol := sure(c.symbols.Take(s.from))
		if symbol == end {
			return
		}
		if symbol < end {
			s.room(1)
			s.plain = append(s.plain, byte(symbol))
			continue
		}
		length := s.length(symbol)
		s.match(length, s.distance(c.distances))
	}
}

// length takes the rest of a length that has this symbol.
func (s *stream) length(symbol int) int {
	first, width, e := lz.OfLength(symbol)
	if e != api.OK {
		panic(api.ErrSymbol)
	}
	n := first + s.take(width)
	// The longest one has a symbol to itself, without more bits.
	if n == longest && width > 0 {
		panic(api.ErrSymbol)
	}
	return n
}

// distance takes a distance.
func (s *stream) distance(c *huff.Code) int {
	first, width, e := lz.OfDistance(sure(c.Take(s.from)))
	if e != api.OK {
		panic(api.ErrSymbol)
	}
	return first + s.take(width)
}

// match tells what a match does.
func (s *stream) match(length, distance int) {
	if distance > len(s.plain) {
		panic(api.ErrFar)
	}
	s.room(length)
	// One by one, since a match may reach into itself.
	for range length {
		s.plain = append(s.plain, s.plain[len(s.plain)-distance])
	}
}

// room gives up, if n more bytes are more than the bound.
func (s *stream) room(n int) {
	if n > s.most-len(s.plain) {
		panic(api.ErrLarge)
	}
}

// take takes a number of n bits.
func (s *stream) take(n int) int {
	return int(sure(s.from.Take(n)))
}

// turn is a number of 16 bits with all of them turned.
func turn(n int) int { return n ^ 0xffff }
