package tables

import (
	"slices"

	"palimpsest/api"
)

// kind is what a list is of: how many there are at most, and of one its name, whether it may be, what puts it and what reads it.
type kind[T comparable] struct {
	most int
	name func(one T) string
	may  func(one T, cluster int64) bool
	put  func(one T) []byte
	read func(r *reader) T
}

// through goes through a list of n, as next puts or reads one behind the other, and tells whether they all are of a list.
// Of one that may not be, or can't be read, next tells the zero one, which without a name may not be either.
func through[T comparable](n int, next func(i int) T, name func(one T) string) bool {
	var none T
	right := true
	places := map[string]int{}
list:
	for i := range n {
		one := next(i)
		_, twice := places[name(one)]
		switch {
		case one == none, twice:
			right = false
			break list
		}
		places[name(one)] = i
	}
	return right
}

// told tells the bytes of a list.
// How long it is, is asked behind all else: of more than may be, one that may not be is told first.
func told[T comparable](k kind[T], bits int, l []T) ([]byte, api.Errno) {
	if !clustered(bits) {
		return nil, api.ErrArg
	}
	var b []byte
	put := func(i int) T {
		if !k.may(l[i], 1<<bits) {
			var none T
			return none
		}
		b = append(b, k.put(l[i])...)
		return l[i]
	}
	if !through(len(l), put, k.name) {
		return nil, api.ErrArg
	}
	if len(l) > k.most {
		return nil, api.ErrLong
	}
	return b, api.OK
}

// taken tells the list of n whose bytes these are.
func taken[T comparable](k kind[T], bits int, b []byte, n int) ([]T, api.Errno) {
	if !clustered(bits) || n < 0 {
		return nil, api.ErrArg
	}
	var l []T
	r := reader{rest: b}
	read := func(int) T {
		one := k.read(&r)
		if r.short || !k.may(one, 1<<bits) {
			var none T
			return none
		}
		l = append(l, one)
		return one
	}
	if n > k.most || !through(n, read, k.name) || len(r.rest) > 0 {
		return nil, api.ErrTable
	}
	return l, api.OK
}

// found tells the place of the first one with a name.
func found[T comparable](k kind[T], l []T, name string) (int, bool) {
	at := slices.IndexFunc(l, func(one T) bool { return k.name(one) == name })
	return max(at, 0), at >= 0
}
