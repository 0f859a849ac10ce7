package regions

import "palimpsest/api"

// marks are kinds that are left out, each with a mark at its number.
type marks [api.MaxKind + 1]bool

// marked is the marks of kinds, if they all may be.
func marked(kinds []int) (marks, bool) {
	var out marks
	for _, k := range kinds {
		if !mayKind(k) {
			return marks{}, false
		}
		out[k] = true
	}
	return out, true
}

// mayKind tells whether a kind may be.
func mayKind(k int) bool { return 1 <= k && k <= api.MaxKind }

// may tells whether a region may be.
func may(one api.Region) bool {
	return mayKind(one.Kind) && one.Len > 0 && lie(one.At, one.Len)
}

// lie tells whether there are n bytes from a place on. The two are not added: huge ones would wrap round.
func lie(at, n int64) bool { return at >= 0 && n >= 0 && n <= api.MaxPlace-at }

// end is the place behind a region that may be.
func end(one api.Region) int64 { return one.At + one.Len }

// multiple is the least multiple of a step that is not below a place. Of a place up to MaxPlace it never wraps round: a step above that is the multiple itself.
func multiple(at, step int64) int64 {
	if over := at % step; over > 0 {
		return at - over + step
	}
	return at
}
