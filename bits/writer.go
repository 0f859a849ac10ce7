package bits

import "palimpsest/api"

// Writer puts bits, one behind the other.
type Writer struct {
	whole []byte // bytes all of whose bits were put
	word  uint64 // bits that wait for the rest of their byte; all above them are 0
	wait  int    // how many wait, 0 to 7 between calls
}

// NewWriter makes a writer without bits.
func NewWriter() *Writer {
	return &Writer{}
}

// Put puts a number of n bits, its lowest one first.
func (w *Writer) Put(x uint64, n int) api.Errno {
	if e := w.refused(x, n); e != api.OK {
		return e
	}
	w.put(x, n)
	return api.OK
}

// Code puts a code of n bits, its highest one first.
func (w *Writer) Code(x uint64, n int) api.Errno {
	// What has too many bits is refused ahead of turning, which would drop them.
	if e := w.refused(x, n); e != api.OK {
		return e
	}
	w.put(Turned(x, n), n)
	return api.OK
}

// Align puts bits 0 up to where a byte begins.
func (w *Writer) Align() api.Errno {
	if w == nil {
		return api.ErrNil
	}
	if w.wait > 0 {
		w.put(0, 8-w.wait)
	}
	return api.OK
}

// Raw puts bytes where a byte begins.
func (w *Writer) Raw(b []byte) api.Errno {
	if w == nil {
		return api.ErrNil
	}
	if w.wait > 0 {
		return api.ErrBits
	}
	w.whole = append(w.whole, b...)
	return api.OK
}

// Len tells how many bits were put.
func (w *Writer) Len() int {
	if w == nil {
		return 0
	}
	return 8*len(w.whole) + w.wait
}

// Bytes tells all bits, and bits 0 behind them up to where a byte begins.
func (w *Writer) Bytes() []byte {
	if w == nil {
		return nil
	}
	all := make([]byte, (w.Len()+7)/8)
	if at := copy(all, w.whole); at < len(all) {
		all[at] = byte(w.word)
	}
	return all
}

// Copy makes another writer that stands so, and goes on apart.
func (w *Writer) Copy() *Writer {
	if w == nil {
		return nil
	}
	return &Writer{whole: kept(w.whole), word: w.word, wait: w.wait}
}

// refused says why x may not be put in n bits.
func (w *Writer) refused(x uint64, n int) api.Errno {
	switch {
	case w == nil:
		return api.ErrNil
	case !wide(n) || x>>n != 0:
		return api.ErrArg
	}
	return api.OK
}

// put lays n bits behind those that wait, and hands on each byte that is full.
func (w *Writer) put(x uint64, n int) {
	w.word |= x << w.wait
	w.wait += n
	for w.wait >= 8 {
		w.whole = append(w.whole, byte(w.word))
		w.word >>= 8
		w.wait -= 8
	}
}
