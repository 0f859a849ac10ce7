package deflate

import (
	"palimpsest/api"
	"palimpsest/huff"
)

// Which symbols there are.
const (
	end           = 256 // of a block
	mostSymbols   = 286
	mostDistances = 30
)

// The symbols of the code of lengths that stand for several lengths; those below them stand for themselves.
const (
	again      = 16 // the one ahead once more
	noughts    = 17
	allNoughts = 18 // more of them
)

// How many lengths stand in a dynamic block at least.
const (
	leastSymbols   = end + 1
	leastDistances = 1
	leastOrdered   = 4
)

// whole is the weight of lengths that are whole.
const whole = 1 << api.MaxLength

// codes are those that the tokens of a block stand in.
type codes struct{ symbols, distances *huff.Code }

// codesOf are codes of these lengths.
func codesOf(symbols, distances []int) codes {
	return codes{sure(huff.New(symbols...)), sure(huff.New(distances...))}
}

// fixedCodes are those of the fixed blocks.
func fixedCodes() codes {
	lengths, distances := Fixed()
	return codesOf(lengths[:], distances[:])
}

// order is in which order the lengths of the code of lengths stand.
func order() [19]int {
	return [19]int{again, noughts, allNoughts, 0, 8, 7, 9, 6, 10, 5, 11, 4, 12, 3, 13, 2, 14, 1, 15}
}

// times is how many lengths a symbol of the code of lengths stands for at least, and how many more bits tell how many more.
func times(symbol int) (least, width int) {
	switch symbol {
	case again:
		return 3, 2
	case noughts:
		return 3, 3
	case allNoughts:
		return 11, 7
	}
	return 1, 0
}

// mayBe tells whether a code of these lengths may be.
func mayBe(lengths []int) bool {
	weight := sure(huff.Weight(lengths...))
	return weight == whole || weight == whole/2 && coded(lengths) == 1
}

// coded is how many symbols have a code.
func coded(lengths []int) int {
	sum := 0
	for _, n := range lengths {
		if n > 0 {
			sum++
		}
	}
	return sum
}
