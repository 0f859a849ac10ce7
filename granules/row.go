package granules

import (
	"iter"
	"math/bits"
)

const (
	wide    = 64 // granules of a word
	perByte = 8  // granules of a byte
)

// row is granules, 64 in a word, the lowest bit first: dirty ones are 1, all other bits 0, those behind the last granule too.
type row []uint64

// newRow is so many granules, none of them dirty.
func newRow(many int64) row { return make(row, (many+wide-1)/wide) }

// sized is so many granules, in new memory: as in the row, and not dirty beyond it.
func (r row) sized(many int64) row {
	out := newRow(many)
	copy(out, r)
	// The last word may hold some of the row that are gone.
	out.reset(many, int64(len(out))*wide)
	return out
}

// masks goes over the words in which granules lie, from one on to ahead of another one, each with these granules' bits.
func masks(from, to int64) iter.Seq2[int64, uint64] {
	return func(yield func(int64, uint64) bool) {
		for at := from; at < to; {
			word, first := at/wide, at%wide
			many := min(to-at, wide-first)
			mask := ^uint64(0)
			mask >>= wide - many
			mask <<= first
			if !yield(word, mask) {
				return
			}
			at += many
		}
	}
}

// set lets granules be dirty, from one on to ahead of another one, and tells how many were not.
func (r row) set(from, to int64) int {
	many := 0
	for i, mask := range masks(from, to) {
		many += bits.OnesCount64(mask &^ r[i])
		r[i] |= mask
	}
	return many
}

// reset lets them not be dirty any more, and tells how many were.
func (r row) reset(from, to int64) int {
	many := 0
	for i, mask := range masks(from, to) {
		many += bits.OnesCount64(mask & r[i])
		r[i] &^= mask
	}
	return many
}

// has tells whether a granule is dirty.
func (r row) has(g int64) bool { return r[g/wide]>>(g%wide)&1 == 1 }

// next tells the first granule that is dirty, or is not, from one on to ahead of another one; that one, if there is none.
func (r row) next(from, to int64, dirty bool) int64 {
	first, others := to, uint64(0)
	if !dirty {
		others = ^others
	}
words:
	for i, mask := range masks(from, to) {
		if noughts := bits.TrailingZeros64((r[i] ^ others) & mask); noughts < wide {
			first = i*wide + int64(noughts)
			break words
		}
	}
	return first
}

// runs goes over the dirty ones ahead of a granule as runs, as long as they can be: from which one on, ahead of which one.
func (r row) runs(many int64) iter.Seq2[int64, int64] {
	return func(yield func(int64, int64) bool) {
		for from := r.next(0, many, true); from < many; {
			to := r.next(from, many, false)
			if !yield(from, to) {
				return
			}
			from = r.next(to, many, true)
		}
	}
}

// dirty tells how many are dirty.
func (r row) dirty() int {
	many := 0
	for _, word := range r {
		many += bits.OnesCount64(word)
	}
	return many
}

// with lets be dirty, too, what is dirty in a row that is as long.
func (r row) with(o row) {
	for i, word := range o {
		r[i] |= word
	}
}

// without lets not be dirty any more what is dirty in a row that is as long.
func (r row) without(o row) {
	for i, word := range o {
		r[i] &^= word
	}
}

// bytes tells so many granules, 8 in a byte, the lowest bit first.
func (r row) bytes(many int64) []byte {
	b := make([]byte, (many+perByte-1)/perByte)
	for i := range b {
		b[i] = byte(r[i*perByte/wide] >> (i * perByte % wide))
	}
	return b
}

// read lets be dirty what is dirty in bytes, if they are just those of so many granules, none of which is dirty as yet.
func (r row) read(b []byte, many int64) bool {
	have := int64(len(b)) * perByte
	if have < many || have-many >= perByte {
		return false
	}
	for i, x := range b {
		r[i*perByte/wide] |= uint64(x) << (i * perByte % wide)
	}
	return r.next(many, have, true) == have
}
