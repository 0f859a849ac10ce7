package stops

import (
	"iter"
	"slices"

	"palimpsest/store"
)

// lastNumber is the number behind which numbers go on from 0, where there are more ways than are numbered.
const lastNumber = int64(1) << mostPieces

// ways goes over a store's ways in their order, as it is now, each with its number.
func ways(s *store.Store) iter.Seq2[int, []int] {
	if none(s) {
		return func(func(int, []int) bool) {}
	}
	return from(0, make([]int, s.Pending()))
}

// from goes over a way of that number and those behind it. With more than mostPieces picks it goes on with the first way behind the last one, as it is to go on for as long as it is asked.
func from(number int64, first []int) iter.Seq2[int, []int] {
	return func(yield func(int, []int) bool) {
		n, way := number, slices.Clone(first)
	counting:
		// A way is copied ahead of being told: whoever is told may change it.
		for yield(int(n), slices.Clone(way)) {
			n = after(n)
			for i := range slices.Backward(way) {
				way[i] ^= 1
				if way[i] == 1 {
					continue counting
				}
			}
			if len(way) <= mostPieces {
				break counting
			}
		}
	}
}

// after is the number that is told behind n.
func after(n int64) int64 {
	if n == lastNumber {
		return 0
	}
	return n + 1
}

// tried are n ways for trying: all 0, all 1, then such as are drawn out of the seed.
func tried(pieces int, seed uint64, n int) [][]int {
	draw := drawer(seed)
	list := make([][]int, n)
	for i := range list {
		pick := draw
		if i < 2 {
			pick = func() int { return i }
		}
		list[i] = filled(pieces, pick)
	}
	return list
}

// filled is a way whose picks are asked one by one.
func filled(pieces int, pick func() int) []int {
	way := make([]int, pieces)
	for i := range way {
		way[i] = pick()
	}
	return way
}

// drawer draws picks out of a seed, each way's behind those of the way ahead of it.
func drawer(seed uint64) func() int {
	x := seed
	return func() int {
		x *= 6364136223846793005
		x += 1442695040888963407
		return int(x >> 63)
	}
}
