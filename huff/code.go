package huff

import (
	"iter"
	"slices"

	"palimpsest/api"
	"palimpsest/bits"
)

// Code is a code of bits for symbols. It is not changed behind New; a zero one is of no symbols.
type Code struct {
	lengths []int
	codes   []uint64
	weight  int
	many    perLength
	sorted  []int // the symbols that have a code, in the order of the codes
}

// New: P3.3.
func New(lengths ...int) (*Code, api.Errno) {
	codes, e := Codes(lengths...)
	if e != api.OK {
		return nil, e
	}
	many := numbered(lengths)
	return &Code{
		lengths: slices.Clone(lengths),
		codes:   codes,
		weight:  weight(lengths),
		many:    many,
		sorted:  byCode(lengths, many),
	}, api.OK
}

// Put: P3.3.
func (c *Code) Put(w *bits.Writer, symbols ...int) (int, api.Errno) {
	if c == nil || w == nil {
		return 0, api.ErrNil
	}
	long := 0
	for _, symbol := range symbols {
		if !c.has(symbol) {
			return 0, api.ErrArg
		}
		long += c.lengths[symbol]
	}
	for _, symbol := range symbols {
		if e := w.Code(c.codes[symbol], c.lengths[symbol]); e != api.OK {
			return 0, e
		}
	}
	return long, api.OK
}

// Take: P3.3.
func (c *Code) Take(r *bits.Reader) (int, api.Errno) {
	if c == nil || r == nil {
		return 0, api.ErrNil
	}
	row, there, e := r.Peek(api.MaxLength)
	if e != api.OK {
		return 0, e
	}
	symbol, n, e := c.find(row, there)
	if e == api.OK {
		e = r.Skip(n)
	}
	return symbol, e
}

// All: P3.3.
func (c *Code) All() iter.Seq2[int, uint64] {
	return func(yield func(int, uint64) bool) {
		if c == nil {
			return
		}
		for symbol := range coded(c.lengths) {
			if !yield(symbol, c.codes[symbol]) {
				return
			}
		}
	}
}

// Lengths: P3.3.
func (c *Code) Lengths() []int {
	if c == nil {
		return nil
	}
	return slices.Clone(c.lengths)
}

// has tells whether a symbol has a code.
func (c *Code) has(symbol int) bool {
	return symbol >= 0 && symbol < len(c.lengths) && c.lengths[symbol] > 0
}

// find looks, bit by bit, for the code with which a row of bits begins: its symbol and its length. The codes of one length follow one another, so which of them it is, is told by how far it is behind the first one.
func (c *Code) find(row uint64, there int) (symbol, n int, e api.Errno) {
	code, first, ahead := 0, 0, 0
	for {
		// All codes, with bits 0 up to MaxLength behind them, lie below the weight, without a gap: what does not begins none.
		if code<<(api.MaxLength-n) >= c.weight {
			return 0, 0, api.ErrCode
		}
		if n == there {
			return 0, 0, api.ErrBits
		}
		code = code<<1 | int(row>>n&1)
		n++
		first <<= 1
		if code-first < c.many[n] {
			return c.sorted[ahead+code-first], n, api.OK
		}
		first += c.many[n]
		ahead += c.many[n]
	}
}

// byCode is the symbols that have a code, in the order of the codes.
func byCode(lengths []int, many perLength) []int {
	var next perLength
	for n := 1; n < len(next); n++ {
		next[n] = next[n-1] + many[n-1]
	}
	sorted := make([]int, next[api.MaxLength]+many[api.MaxLength])
	for symbol, n := range coded(lengths) {
		sorted[next[n]] = symbol
		next[n]++
	}
	return sorted
}
