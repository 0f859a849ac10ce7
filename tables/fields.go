package tables

import (
	"palimpsest/wire"
)

// text tells the bytes of a name that may be: how many it has, in one byte, and these.
func text(name string) []byte {
	return wire.Join(number(int64(len(name)), 1), []byte(name))
}

// number tells the bytes of a number that has at most so many, and is not below 0.
func number(x int64, wide int) []byte {
	b := make([]byte, wide)
	wire.Set(b, 0, wide, uint64(x))
	return b
}

// reader reads what stands one behind the other.
type reader struct {
	rest  []byte
	short bool // there was less than was to be read
}

// text reads a name; of the caller's bytes it keeps none.
func (r *reader) text() string {
	return string(r.bytes(int(r.number(1))))
}

// number reads a number; one of 8 bytes that is too great is told below 0, where none may be.
func (r *reader) number(wide int) int64 {
	x, _ := wire.Get(r.bytes(wide), 0, wide)
	return int64(x)
}

// bytes goes on by so many; from then on that they are not all there, it tells none.
func (r *reader) bytes(many int) []byte {
	if r.short = r.short || many > len(r.rest); r.short {
		return nil
	}
	b := r.rest[:many]
	r.rest = r.rest[many:]
	return b
}
