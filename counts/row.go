package counts

import "palimpsest/api"

const perByte = 8 // bits of a byte

// widths are how many bits a count has, by orders.
var widths = [7]int{1, 2, 4, 8, 16, 32, 64}

// row is bytes as counts of one width.
type row struct {
	bytes []byte
	width int
}

// laid is bytes as counts of an order, if that may be.
func laid(b []byte, order int) (row, api.Errno) {
	if order < 0 || order >= len(widths) {
		return row{}, api.ErrArg
	}
	return row{b, widths[order]}, api.OK
}

// having is bytes as counts of an order, if that may be and there is a count i.
func having(b []byte, order, i int) (row, api.Errno) {
	r, no := laid(b, order)
	if no != api.OK {
		return row{}, no
	}
	// Nothing is reckoned with i ahead of this: a huge one would wrap round.
	if i < 0 || i >= r.many() {
		return row{}, api.ErrRange
	}
	return r, api.OK
}

// opened tells count i, and how another value is put in its place, if it fits.
func opened(b []byte, order, i int) (was uint64, put func(x uint64) api.Errno, no api.Errno) {
	r, no := having(b, order, i)
	if no != api.OK {
		return 0, nil, no
	}
	put = func(x uint64) api.Errno {
		if x > r.most() {
			return api.ErrLong
		}
		r.set(i, x)
		return api.OK
	}
	return r.get(i), put, api.OK
}

// many tells how many counts there are; bits that are left over are none.
func (r row) many() int { return len(r.bytes) * perByte / r.width }

// most tells the greatest value.
func (r row) most() uint64 { return ^uint64(0) >> (64 - r.width) }

// room is bytes, all noughts, for just so many counts.
func (r row) room(many int) []byte {
	return make([]byte, (many*r.width+perByte-1)/perByte)
}

// get tells count i, its highest bit taken first.
func (r row) get(i int) uint64 {
	x := uint64(0)
	for k := (i+1)*r.width - 1; k >= i*r.width; k-- {
		x <<= 1
		x |= uint64(r.bit(k))
	}
	return x
}

// set makes count i be x, which fits, its lowest bit put first.
func (r row) set(i int, x uint64) {
	for k := i * r.width; k < (i+1)*r.width; k++ {
		one := byte(1)
		one <<= k % perByte
		r.bytes[k/perByte] &^= one
		if x&1 == 1 {
			r.bytes[k/perByte] |= one
		}
		x >>= 1
	}
}

// bit tells bit k of the bytes.
func (r row) bit(k int) byte { return r.bytes[k/perByte] >> (k % perByte) & 1 }

// free tells the first run of n counts, from a place on, that are 0.
// Each count is asked once, however the runs lie that are too short; nothing is added to n: a huge one would wrap round.
func (r row) free(from, n int) (int, api.Errno) {
	first, many := from, r.many()
counts:
	for i := from; i < many; i++ {
		for k := i * r.width; k < (i+1)*r.width; k++ {
			if r.bit(k) == 1 {
				first = i + 1
				continue counts
			}
		}
		if i-first == n-1 {
			return first, api.OK
		}
	}
	return 0, api.ErrNone
}

// all goes over the counts that are not 0, each with its place.
func (r row) all(yield func(int, uint64) bool) {
	for i := range r.many() {
		if x := r.get(i); x != 0 && !yield(i, x) {
			return
		}
	}
}
