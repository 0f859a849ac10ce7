package deflate

import (
	"slices"

	"palimpsest/api"
	"palimpsest/huff"
)

// mostOrdered is how many bits a code of the code of lengths has at most.
const mostOrdered = 7

// plan is how a dynamic block begins: the lengths of its codes, and how they stand.
type plan struct {
	symbols, distances []int
	lengths            []int // of the code of lengths
	ordered            []int // these as they stand
	row                []repeat
	bits               int // how many bits it has
}

// repeat is a symbol of the code of lengths, with its more bits.
type repeat struct {
	symbol int
	more   uint64
	width  int
}

// planned is the beginning of a block by codes that cost least for what it has.
func planned(t tally) plan {
	var x plan
	x.symbols = cropped(leastSymbols, sure(huff.Lengths(api.MaxLength, t.symbols[:]...)))
	x.distances = cropped(leastDistances, sure(huff.Lengths(api.MaxLength, t.distances[:]...)))
	x.row = repeats(slices.Concat(x.symbols, x.distances))
	var counts [19]uint32
	for _, r := range x.row {
		counts[r.symbol]++
		x.bits += r.width
	}
	x.lengths = sure(huff.Lengths(mostOrdered, counts[:]...))
	for _, symbol := range order() {
		x.ordered = append(x.ordered, x.lengths[symbol])
	}
	x.ordered = cropped(leastOrdered, x.ordered)
	x.bits += 5 + 5 + 4 + 3*len(x.ordered) + cost(x.lengths, counts[:])
	return x
}

// cropped is lengths without the noughts at the end, as far as there may be fewer.
func cropped(least int, lengths []int) []int {
	n := len(lengths)
	for n > least && lengths[n-1] == 0 {
		n--
	}
	return lengths[:n]
}

// cost is how many bits symbols have that come so often.
func cost(lengths []int, counts []uint32) int {
	return int(sure(huff.Cost(lengths, counts...)))
}

// repeats is a row of lengths in symbols of the code of lengths.
func repeats(row []int) []repeat {
	var l []repeat
	for len(row) > 0 {
		length, n := row[0], alike(row)
		row = row[n:]
		if length > 0 {
			l = append(l, repeat{symbol: length})
			l, n = repeated(l, again, n-1)
		} else {
			l, n = repeated(l, allNoughts, n)
			l, n = repeated(l, noughts, n)
		}
		for range n {
			l = append(l, repeat{symbol: length})
		}
	}
	return l
}

// alike is how many lengths, from the first one on, are the same.
func alike(row []int) int {
	n := 1
	for n < len(row) && row[n] == row[0] {
		n++
	}
	return n
}

// repeated is a list with repeats by this symbol behind it, of n lengths, as far as they go into such ones: and how many are left.
func repeated(l []repeat, symbol, n int) ([]repeat, int) {
	least, width := times(symbol)
	for n >= least {
		more := min(n-least, 1<<width-1)
		l = append(l, repeat{symbol, uint64(more), width})
		n -= least + more
	}
	return l, n
}

// plan puts what is planned.
func (p press) plan(x plan) {
	p.put(uint64(len(x.symbols)-leastSymbols), 5)
	p.put(uint64(len(x.distances)-leastDistances), 5)
	p.put(uint64(len(x.ordered)-leastOrdered), 4)
	for _, n := range x.ordered {
		p.put(uint64(n), 3)
	}
	c := sure(huff.New(x.lengths...))
	for _, r := range x.row {
		sure(c.Put(p.to, r.symbol))
		p.put(r.more, r.width)
	}
}
