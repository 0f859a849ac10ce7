// Package wire is layer 1, numbers and texts in fixed places: see shared/doc/01-wire.md.
package wire

import (
	"palimpsest/api"
)

const (
	widest  = 8       // bytes that a number has at most
	ahead   = 4       // bytes of a text's length, ahead of it in its field
	longest = 1 << 20 // bytes that a text has at most, in any field
)

// Get reads a number.
func Get(b []byte, at, n int) (uint64, api.Errno) {
	if e := number(b, at, n); e != api.OK {
		return 0, e
	}
	var x uint64
	for i := n - 1; i >= 0; i-- {
		x <<= 8
		x |= uint64(b[at+i])
	}
	return x, api.OK
}

// Set writes a number.
func Set(b []byte, at, n int, x uint64) api.Errno {
	if e := number(b, at, n); e != api.OK {
		return e
	}
	low, fits := split(x, n)
	if !fits {
		return api.ErrLong
	}
	copy(b[at:at+n], low[:n])
	return api.OK
}

// Text reads a text.
func Text(b []byte, at, most int) (string, api.Errno) {
	if e := text(b, at, most); e != api.OK {
		return "", e
	}
	from, end := at+ahead, at+ahead+most
	// The length is held against most as it stands: as an int it might wrap round.
	long, _ := Get(b, at, ahead)
	if long > uint64(most) {
		return "", api.ErrWire
	}
	until := from + int(long)
	if bare, _ := Noughts(b, until, end); !bare {
		return "", api.ErrWire
	}
	return string(b[from:until]), api.OK
}

// SetText writes a text.
func SetText(b []byte, at, most int, s string) api.Errno {
	if e := text(b, at, most); e != api.OK {
		return e
	}
	if len(s) > most {
		return api.ErrLong
	}
	Set(b, at, ahead, uint64(len(s)))
	field := b[at+ahead : at+ahead+most]
	clear(field[copy(field, s):])
	return api.OK
}

// Noughts tells whether bytes are noughts.
func Noughts(b []byte, from, until int) (bool, api.Errno) {
	if from < 0 || from > until || until > len(b) {
		return false, api.ErrRange
	}
	for _, x := range b[from:until] {
		if x != 0 {
			return false, api.OK
		}
	}
	return true, api.OK
}

// Join puts fields behind one another.
func Join(fields ...[]byte) []byte {
	long := 0
	for _, f := range fields {
		long += len(f)
	}
	all, at := make([]byte, long), 0
	for _, f := range fields {
		at += copy(all[at:], f)
	}
	return all
}

// number refuses a number's field that may not be, or is not there.
func number(b []byte, at, n int) api.Errno {
	if n < 1 || n > widest {
		return api.ErrArg
	}
	return within(b, at, n)
}

// text refuses a text's field that may not be, or is not there.
func text(b []byte, at, most int) api.Errno {
	if most < 0 || most > longest {
		return api.ErrArg
	}
	return within(b, at, ahead+most)
}

// within refuses n bytes that are not all there. Nothing is added to at: a huge one would wrap round.
func within(b []byte, at, n int) api.Errno {
	if at < 0 || at > len(b)-n {
		return api.ErrRange
	}
	return api.OK
}

// split tells x's n lowest bytes, and whether those are all of it.
// They are split off ahead of any being written, so that a number that is refused leaves no part of itself behind.
func split(x uint64, n int) (low [widest]byte, fits bool) {
	fits = true
digits:
	for i := range low {
		switch {
		case i < n:
			low[i] = byte(x)
			x >>= 8
		case x != 0:
			fits = false
			break digits
		}
	}
	return low, fits
}
