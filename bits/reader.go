package bits

import "palimpsest/api"

// Reader takes bits, one behind the other.
type Reader struct {
	whole []byte
	next  int    // the byte that goes into the word next
	word  uint64 // bits that wait to be taken, the next one lowest; all above them are 0
	wait  int    // how many wait
}

// NewReader makes a reader of these bytes, as they are now.
func NewReader(b []byte) *Reader {
	return &Reader{whole: kept(b)}
}

// Take takes a number of n bits.
func (r *Reader) Take(n int) (uint64, api.Errno) {
	x, there, e := r.Peek(n)
	switch {
	case e != api.OK:
		return 0, e
	case there < n:
		return 0, api.ErrBits
	}
	r.drop(n)
	return x, api.OK
}

// Peek tells the number of the next n bits, and how many of them are there.
func (r *Reader) Peek(n int) (uint64, int, api.Errno) {
	switch {
	case r == nil:
		return 0, 0, api.ErrNil
	case !wide(n):
		return 0, 0, api.ErrArg
	}
	if r.wait < n {
		r.fill()
	}
	return r.word & (1<<n - 1), min(n, r.wait), api.OK
}

// Skip goes over n bits.
func (r *Reader) Skip(n int) api.Errno {
	switch {
	case r == nil:
		return api.ErrNil
	case n < 0:
		return api.ErrArg
	case n > r.Left():
		return api.ErrBits
	}
	if n > r.wait {
		n -= r.wait
		r.stand(r.next + n/8)
		r.fill()
		n %= 8
	}
	r.drop(n)
	return api.OK
}

// Align goes to where the next byte begins.
func (r *Reader) Align() api.Errno {
	if r == nil {
		return api.ErrNil
	}
	// Bytes go into the word whole, so what waits beyond whole bytes is the rest of the one that was begun.
	r.drop(r.wait % 8)
	return api.OK
}

// Raw takes n bytes where a byte begins.
func (r *Reader) Raw(n int) ([]byte, api.Errno) {
	switch {
	case r == nil:
		return nil, api.ErrNil
	case n < 0:
		return nil, api.ErrArg
	// The bits that are left are divided, since a huge n times 8 would wrap round.
	case r.wait%8 != 0 || n > r.Left()/8:
		return nil, api.ErrBits
	}
	at := r.At() / 8
	r.stand(at + n)
	return kept(r.whole[at : at+n]), api.OK
}

// At tells at which bit the reader stands.
func (r *Reader) At() int {
	if r == nil {
		return 0
	}
	return 8*r.next - r.wait
}

// Left tells how many bits are left.
func (r *Reader) Left() int {
	if r == nil {
		return 0
	}
	return 8*len(r.whole) - r.At()
}

// Copy makes another reader that stands so, and goes on apart.
func (r *Reader) Copy() *Reader {
	if r == nil {
		return nil
	}
	return &Reader{whole: kept(r.whole), next: r.next, word: r.word, wait: r.wait}
}

// fill lets bytes into the word while there is room for a whole one.
func (r *Reader) fill() {
	for r.wait <= 56 && r.next < len(r.whole) {
		r.word |= uint64(r.whole[r.next]) << r.wait
		r.wait += 8
		r.next++
	}
}

// drop lets go of n bits that wait.
func (r *Reader) drop(n int) {
	r.word >>= n
	r.wait -= n
}

// stand goes to where the byte at begins; nothing waits there.
func (r *Reader) stand(at int) {
	r.next, r.word, r.wait = at, 0, 0
}
