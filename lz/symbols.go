package lz

import (
	"palimpsest/api"
)

// Which symbols there are.
const (
	end           = 256 // of a block
	firstLength   = 257
	manyLengths   = 29
	manyDistances = 30
)

// span is what a symbol stands for: the numbers from first on that so many more bits tell apart.
type span struct{ first, width int }

// Length: P4.3.
func Length(n int) (symbol int, more uint64, width int, e api.Errno) {
	if !isLength(n) {
		return 0, 0, 0, api.ErrArg
	}
	spans := lengthSpans()
	i := holds(spans[:], n)
	return firstLength + i, uint64(n - spans[i].first), spans[i].width, api.OK
}

// Distance: P4.3.
func Distance(n int) (symbol int, more uint64, width int, e api.Errno) {
	if !isDistance(n) {
		return 0, 0, 0, api.ErrArg
	}
	spans := distanceSpans()
	i := holds(spans[:], n)
	return i, uint64(n - spans[i].first), spans[i].width, api.OK
}

// OfLength: P4.3.
func OfLength(symbol int) (first, width int, e api.Errno) {
	if symbol < firstLength || symbol >= firstLength+manyLengths {
		return 0, 0, api.ErrArg
	}
	s := lengthSpans()[symbol-firstLength]
	return s.first, s.width, api.OK
}

// OfDistance: P4.3.
func OfDistance(symbol int) (first, width int, e api.Errno) {
	if symbol < 0 || symbol >= manyDistances {
		return 0, 0, api.ErrArg
	}
	s := distanceSpans()[symbol]
	return s.first, s.width, api.OK
}

// Counts: P4.3.
func Counts(l ...api.Token) (lengths [286]uint32, distances [30]uint32, e api.Errno) {
	if e := refused(l); e != api.OK {
		return lengths, distances, e
	}
	ofLengths, ofDistances := lengthSpans(), distanceSpans()
	lengths[end] = 1
	for _, t := range l {
		if t.Length == 0 {
			lengths[t.Byte]++
			continue
		}
		lengths[firstLength+holds(ofLengths[:], t.Length)]++
		distances[holds(ofDistances[:], t.Distance)]++
	}
	return lengths, distances, api.OK
}

// isLength tells whether a match may have n bytes.
func isLength(n int) bool { return n >= shortest && n <= longest }

// isDistance tells whether a match may be n bytes back.
func isDistance(n int) bool { return n >= 1 && n <= api.Window }

// lengthSpans are the spans of the lengths' symbols: behind the first eight each four have one more bit than the four ahead.
func lengthSpans() [manyLengths]span {
	var spans [manyLengths]span
	first := shortest
	for i := range spans {
		spans[i] = span{first, max(0, i/4-1)}
		first += 1 << spans[i].width
	}
	// The longest one has a symbol to itself, though the more bits of the one ahead would still reach it.
	spans[manyLengths-1] = span{longest, 0}
	return spans
}

// distanceSpans are the spans of the distances' symbols: behind the first four each two have one more bit than the two ahead.
func distanceSpans() [manyDistances]span {
	var spans [manyDistances]span
	first := 1
	for i := range spans {
		spans[i] = span{first, max(0, i/2-1)}
		first += 1 << spans[i].width
	}
	return spans
}

// holds is which span a number is in: the last one that begins no later.
func holds(spans []span, n int) int {
	i := len(spans) - 1
	for spans[i].first > n {
		i--
	}
	return i
}
