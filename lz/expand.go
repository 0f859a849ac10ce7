package lz

import (
	"palimpsest/api"
)

// Expand: P4.2.
func Expand(most int, l ...api.Token) ([]byte, int, api.Errno) {
	if most < 0 {
		return nil, 0, api.ErrArg
	}
	if e := refused(l); e != api.OK {
		return nil, 0, e
	}
	var b []byte
	for i, t := range l {
		if t.Distance > len(b) {
			return nil, i, api.ErrFar
		}
		if size(t) > most-len(b) {
			return nil, i, api.ErrLarge
		}
		b = told(b, t)
	}
	return b, len(l), api.OK
}

// Check: P4.2.
func Check(t api.Token) api.Errno {
	if t.Length == 0 && t.Distance == 0 {
		return api.OK
	}
	if t.Byte != 0 || !isLength(t.Length) || !isDistance(t.Distance) {
		return api.ErrArg
	}
	return api.OK
}

// refused tells why tokens are not taken.
func refused(l []api.Token) api.Errno {
	for _, t := range l {
		if e := Check(t); e != api.OK {
			return e
		}
	}
	if len(l) > api.MaxPlain {
		return api.ErrLong
	}
	return api.OK
}

// size is how many bytes a token tells.
func size(t api.Token) int { return max(1, t.Length) }

// told is bytes with those of a token behind them.
func told(b []byte, t api.Token) []byte {
	if t.Length == 0 {
		return append(b, t.Byte)
	}
	// One by one, since a match may reach into itself.
	for range t.Length {
		b = append(b, b[len(b)-t.Distance])
	}
	return b
}
