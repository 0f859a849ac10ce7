package deflate

import (
	"slices"

	"palimpsest/api"
	"palimpsest/lz"
)

// piece is how many tokens are held against those ahead of them, whether they are to share a block.
const piece = 1 << 12

// part is tokens that are one block: how many these are, how many bytes they tell, and the kind of block that takes fewest bits.
type part struct {
	tokens, bytes int
	many          tally
	plan          plan
	kind          api.BlockKind
	bits          int
}

// cut makes parts of tokens: pieces of them, joined with the part ahead where this takes no more bits. Of no tokens it is one part.
func cut(l []api.Token) []part {
	parts := []part{ofTokens(l[:min(len(l), piece)])}
	for more := range slices.Chunk(l[parts[0].tokens:], piece) {
		ahead, next := parts[len(parts)-1], ofTokens(more)
		both := measured(ahead.tokens+next.tokens, ahead.bytes+next.bytes, ahead.many.and(next.many))
		if both.bits <= ahead.bits+next.bits {
			parts[len(parts)-1] = both
		} else {
			parts = append(parts, next)
		}
	}
	return parts
}

// ofTokens is a part of these tokens.
func ofTokens(l []api.Token) part {
	bytes := 0
	for _, t := range l {
		bytes += max(1, t.Length)
	}
	return measured(len(l), bytes, counted(l))
}

// measured is a part of so many tokens, which tell so many bytes, with symbols that come so often.
func measured(tokens, bytes int, many tally) part {
	x := part{tokens: tokens, bytes: bytes, many: many, plan: planned(many)}
	lengths, distances := Fixed()
	each := [...]int{
		api.BlockStored:  storedBits(bytes),
		api.BlockFixed:   many.bits(lengths[:], distances[:]),
		api.BlockDynamic: x.plan.bits + many.bits(x.plan.symbols, x.plan.distances),
	}
	for kind, n := range each {
		if n < each[x.kind] {
			x.kind = api.BlockKind(kind)
		}
	}
	x.bits = 3 + each[x.kind]
	return x
}

// storedBits is how many bits stored blocks have behind the kind of the first one, at most: where it begins in a byte is not known yet.
func storedBits(bytes int) int {
	more := max(0, bytes-1) / mostStored
	return 7 + 32 + 8*bytes + more*(8+32)
}

// tally is how often symbols come in a block, its end once.
type tally struct {
	symbols   [mostSymbols]uint32
	distances [mostDistances]uint32
}

// counted is how often the symbols of tokens come.
func counted(l []api.Token) tally {
	symbols, distances, e := lz.Counts(l...)
	hold(e)
	return tally{symbols, distances}
}

// and is how often symbols come in two blocks that are made one.
func (t tally) and(next tally) tally {
	for symbol, n := range next.symbols {
		t.symbols[symbol] += n
	}
	for symbol, n := range next.distances {
		t.distances[symbol] += n
	}
	t.symbols[end] = 1
	return t
}

// bits is how many bits the tokens of a block and its end have, by codes of these lengths.
func (t tally) bits(symbols, distances []int) int {
	sum := 0
	for symbol, n := range t.symbols {
		if n > 0 {
			sum += int(n) * (symbols[symbol] + moreOfSymbol(symbol))
		}
	}
	for symbol, n := range t.distances {
		if n > 0 {
			_, more, e := lz.OfDistance(symbol)
			hold(e)
			sum += int(n) * (distances[symbol] + more)
		}
	}
	return sum
}

// moreOfSymbol is how many more bits stand behind a symbol.
func moreOfSymbol(symbol int) int {
	if symbol <= end {
		return 0
	}
	_, more, e := lz.OfLength(symbol)
	hold(e)
	return more
}
