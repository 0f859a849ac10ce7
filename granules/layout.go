package granules

import "palimpsest/api"

// Bounds of Gran.
const (
	leastGran = 9
	mostGran  = 26
)

// layout is how a guest's bytes lie in granules.
type layout struct {
	size int64
	gran int // a granule has 2^gran bytes
}

// may tells whether a map may have this layout.
func (l layout) may() bool {
	return 0 <= l.size && l.size <= api.MaxGuest && leastGran <= l.gran && l.gran <= mostGran
}

// many tells how many granules there are.
func (l layout) many() int64 { return l.from(l.size) }

// of tells the granule of a byte.
func (l layout) of(at int64) int64 { return at >> l.gran }

// from tells the first granule that has no byte ahead of a place.
func (l layout) from(at int64) int64 { return (at + 1<<l.gran - 1) >> l.gran }

// touched tells the granules in which one of n bytes lies: from which one on, ahead of which one.
func (l layout) touched(at, n int64) (int64, int64) {
	// No bytes lie in no granule, though their place may be within one.
	if n == 0 {
		return 0, 0
	}
	return l.of(at), l.from(at + n)
}

// covered tells the granules all of whose bytes below the size are among n, likewise; if there is none, the first number is not below the second.
func (l layout) covered(at, n int64) (int64, int64) {
	// The last granule may reach beyond the size: up to there are all bytes that it has.
	if at+n == l.size {
		return l.from(at), l.many()
	}
	return l.from(at), l.of(at + n)
}

// bytes tells the bytes below the size of granules from one on to ahead of another one: their place, and how many.
func (l layout) bytes(from, to int64) (int64, int64) {
	at := from << l.gran
	return at, min(to<<l.gran, l.size) - at
}
