package bits

import (
	"bytes"
	"math"
	"testing"

	"palimpsest/api"
)

// row is bits one by one, as the document numbers them: what writers and readers are held against.
type row []bool

// rowOf is the bits of bytes.
func rowOf(b []byte) row {
	var l row
	for i := 0; i < 8*len(b); i++ {
		l = append(l, b[i/8]/(1<<(i%8))%2 == 1)
	}
	return l
}

// bytes is the row as bytes, bits 0 behind it.
func (l row) bytes() []byte {
	b := make([]byte, (len(l)+7)/8)
	for i, one := range l {
		if one {
			b[i/8] += 1 << (i % 8)
		}
	}
	return b
}

// with is the row and a number of n bits behind it.
func (l row) with(x uint64, n int) row {
	l = append(row{}, l...)
	for ; n > 0; n-- {
		l = append(l, x%2 == 1)
		x /= 2
	}
	return l
}

// withCode is the row and a code of n bits behind it.
func (l row) withCode(x uint64, n int) row {
	l = append(row{}, l...)
	for i := n - 1; i >= 0; i-- {
		l = append(l, x/(1<<i)%2 == 1)
	}
	return l
}

// number is the number of n bits at a place, what is not there being 0, and how many are there.
func (l row) number(at, n int) (x uint64, there int) {
	for i := 0; i < n && at+i < len(l); i++ {
		if l[at+i] {
			x += 1 << i
		}
		there++
	}
	return x, there
}

// aligned is where the next byte begins.
func aligned(at int) int {
	for at%8 != 0 {
		at++
	}
	return at
}

// widths are how many bits are asked for: all that may be, those around them, huge ones.
func widths() []int {
	l := []int{math.MinInt, math.MinInt + 1, -1 << 32, -64, 62, 63, 64, 65, 128, 1 << 32, math.MaxInt - 1, math.MaxInt}
	for n := -2; n <= 60; n++ {
		l = append(l, n)
	}
	return l
}

// numbers are some of n bits, the least and the greatest among them, and some of more.
func numbers(n int) []uint64 {
	l := []uint64{0, 1, 2, 3, 0x5a, 1<<57 - 1, 1 << 57, 1 << 63, math.MaxUint64, 0xaaaaaaaaaaaaaaaa, 0x123456789abcdef}
	if n >= 0 && n <= 63 {
		top := uint64(1) << n
		l = append(l, top-1, top, top+1, top/2, 0xaaaaaaaaaaaaaaaa%top, 0x123456789abcdef%top)
	}
	return l
}

// fits says whether x is a number of n bits, and n is one that may be.
func fits(x uint64, n int) bool {
	return n >= 0 && n <= 57 && x < 1<<n
}

// begun is a writer with so many bits, put one by one, and these bits.
func begun(long int) (*Writer, row) {
	w, l := NewWriter(), row{}
	for i := 0; i < long; i++ {
		x := uint64(i*i/3+i) % 2
		w.Put(x, 1)
		l = l.with(x, 1)
	}
	return w, l
}

// tells holds a writer against the bits that it must have.
func tells(t *testing.T, w *Writer, l row, what ...any) {
	t.Helper()
	if w.Len() != len(l) || !bytes.Equal(w.Bytes(), l.bytes()) {
		t.Errorf("%v: %d bits, %x; not %d, %x", what, w.Len(), w.Bytes(), len(l), l.bytes())
	}
}

// stands holds a reader's place against what it must be.
func stands(t *testing.T, r *Reader, at, long int, what ...any) {
	t.Helper()
	if r.At() != at || r.Left() != long-at {
		t.Errorf("%v: at %d, %d left; not %d, %d", what, r.At(), r.Left(), at, long-at)
	}
}

// P2.1: a new writer has no bits.
func TestNewWriter(t *testing.T) {
	w := NewWriter()
	if w == nil {
		t.Fatal("there is none")
	}
	tells(t, w, row{}, "new")
	if w.Put(1, 1); NewWriter().Len() != 0 {
		t.Error("two new ones share bits")
	}
}

// P2.1: Put and Code, at every place in a byte, of every width, of numbers that just fit and that do not.
func TestPutAndCode(t *testing.T) {
	for from := 0; from <= 17; from++ {
		for _, n := range widths() {
			for _, x := range numbers(n) {
				for _, code := range []bool{false, true} {
					w, l := begun(from)
					put := w.Put
					if code {
						put = w.Code
					}
					e, want := put(x, n), api.OK
					switch {
					case !fits(x, n):
						want = api.ErrArg
					case code:
						l = l.withCode(x, n)
					default:
						l = l.with(x, n)
					}
					if e != want {
						t.Errorf("%d bits, then %d of %d (code %v): %v, not %v", from, x, n, code, e, want)
					}
					tells(t, w, l, from, x, n, code)
					// What was refused, or put, leaves nothing behind that a next number would meet.
					w.Put(5, 3)
					tells(t, w, l.with(5, 3), from, x, n, code, "and 5")
				}
			}
		}
	}
}

// P2.1: Align puts bits 0 up to where a byte begins, and none if one begins there.
func TestWriterAlign(t *testing.T) {
	for from := 0; from <= 70; from++ {
		w, l := begun(from)
		l = l.with(0, aligned(from)-from)
		for range 2 {
			if e := w.Align(); e != api.OK {
				t.Errorf("%d bits: %v", from, e)
			}
			tells(t, w, l, from)
		}
		w.Put(3, 2)
		tells(t, w, l.with(3, 2), from, "and 3")
	}
}

// P2.1: Raw puts bytes where a byte begins, and is refused elsewhere, for no bytes too.
func TestWriterRaw(t *testing.T) {
	for from := 0; from <= 25; from++ {
		for _, b := range [][]byte{nil, {}, {0}, {0xaa}, {1, 2, 3, 4, 5, 6, 7, 8, 9}, bytes.Repeat([]byte{7}, 300)} {
			w, l := begun(from)
			e, want := w.Raw(b), api.OK
			if from%8 != 0 {
				want = api.ErrBits
			} else {
				l = append(l, rowOf(b)...)
			}
			if e != want {
				t.Errorf("%d bits, then %d bytes: %v, not %v", from, len(b), e, want)
			}
			tells(t, w, l, from, len(b))
			w.Put(9, 4)
			tells(t, w, l.with(9, 4), from, len(b), "and 9")
		}
	}
}

// P2.1: Bytes and Len put nothing: what comes behind stands where it would have stood.
func TestBytesPutsNothing(t *testing.T) {
	w, l := NewWriter(), row{}
	for i := 0; i < 40; i++ {
		tells(t, w, l, i)
		tells(t, w, l, i, "again")
		w.Put(uint64(i%2), 1+i%3)
		l = l.with(uint64(i%2), 1+i%3)
	}
}

// P2.1: bytes that are handed in, and those handed out, are kept apart from the writer's, spare room included.
func TestWriterKeepsApart(t *testing.T) {
	room := []byte{1, 2, 3, 4, 5, 6}
	w := NewWriter()
	w.Raw(room[:3])
	w.Raw([]byte{9})
	w.Put(1, 1)
	if !bytes.Equal(room, []byte{1, 2, 3, 4, 5, 6}) {
		t.Error("what was handed in has changed:", room)
	}
	clear(room)
	one, two := w.Bytes(), w.Bytes()
	clear(one[:cap(one)])
	if want := []byte{1, 2, 3, 9, 1}; !bytes.Equal(two, want) || !bytes.Equal(w.Bytes(), want) {
		t.Error(two, w.Bytes())
	}
	two = append(two, 8)
	w.Put(127, 7)
	w.Put(6, 8)
	if !bytes.Equal(two, []byte{1, 2, 3, 9, 1, 8}) || !bytes.Equal(w.Bytes(), []byte{1, 2, 3, 9, 255, 6}) {
		t.Error(two, w.Bytes())
	}
}

// sample is bytes whose neighbours differ in all their bits' places.
func sample(long int) []byte {
	b := make([]byte, long)
	for i := range b {
		b[i] = byte(i*i*37 + i*91 + 0xb5)
	}
	return b
}

// ways are how a reader comes to a place: over bits of which none, some or all wait in its word.
func ways(b []byte, at int) map[string]*Reader {
	l := map[string]*Reader{}
	for _, how := range []string{"skip", "one by one", "peek and skip", "widest", "raw", "skip twice"} {
		r := NewReader(b)
		left := at
		switch how {
		case "peek and skip":
			r.Peek(57)
		case "one by one":
			for ; left > 0; left-- {
				r.Take(1)
			}
		case "widest":
			for ; left >= 57; left -= 57 {
				r.Take(57)
			}
		case "raw":
			r.Raw(left / 8)
			left %= 8
		case "skip twice":
			r.Skip(left / 3)
			left -= left / 3
		}
		r.Skip(left)
		if how == "peek and skip" {
			r.Peek(57)
		}
		l[how] = r
	}
	return l
}

// lengths are of how many bytes readers are tried.
var lengths = []int{0, 1, 2, 7, 8, 9, 16, 20}

// P2.2: Take and Peek, at every place, of every width, up to the last bit and past it.
func TestTakeAndPeek(t *testing.T) {
	for _, long := range lengths {
		b := sample(long)
		l := rowOf(b)
		for at := 0; at <= len(l); at++ {
			for _, n := range widths() {
				for how, r := range ways(b, at) {
					stands(t, r, at, len(l), how)
					want, there := l.number(at, n)
					e := api.OK
					if n < 0 || n > 57 {
						want, there, e = 0, 0, api.ErrArg
					}
					for range 2 {
						if x, k, f := r.Peek(n); x != want || k != there || f != e {
							t.Errorf("%d bytes at %d (%s), Peek %d: %d %d %v, not %d %d %v", long, at, how, n, x, k, f, want, there, e)
						}
						stands(t, r, at, len(l), how, "peeked", n)
					}
					next := at
					switch {
					case e != api.OK:
					case there < n:
						want, e = 0, api.ErrBits
					default:
						next = at + n
					}
					if x, f := r.Take(n); x != want || f != e {
						t.Errorf("%d bytes at %d (%s), Take %d: %d %v, not %d %v", long, at, how, n, x, f, want, e)
					}
					stands(t, r, next, len(l), how, "took", n)
				}
			}
		}
	}
}

// follows asks that a reader goes on behind a call as the bits say.
func follows(t *testing.T, r *Reader, l row, at int, what ...any) {
	t.Helper()
	stands(t, r, at, len(l), what...)
	want, there := l.number(at, 57)
	if x, k, e := r.Peek(57); x != want || k != there || e != api.OK {
		t.Errorf("%v: goes on with %d %d %v, not %d %d", what, x, k, e, want, there)
	}
}

// P2.2: Skip, at every place, up to the last bit, one past it, below 0, huge.
func TestSkip(t *testing.T) {
	for _, long := range lengths {
		b := sample(long)
		l := rowOf(b)
		for at := 0; at <= len(l); at++ {
			tries := []int{math.MinInt, math.MinInt + 1, -1 << 32, -8, -1, 1 << 32, math.MaxInt - 7, math.MaxInt}
			for n := 0; n <= len(l)-at+9; n++ {
				tries = append(tries, n)
			}
			for _, n := range tries {
				for how, r := range ways(b, at) {
					next, want := at, api.OK
					switch {
					case n < 0:
						want = api.ErrArg
					case n > len(l)-at:
						want = api.ErrBits
					default:
						next = at + n
					}
					if e := r.Skip(n); e != want {
						t.Errorf("%d bytes at %d (%s), Skip %d: %v, not %v", long, at, how, n, e, want)
					}
					follows(t, r, l, next, long, at, how, n)
				}
			}
		}
	}
}

// P2.2: Align, at every place, and twice.
func TestReaderAlign(t *testing.T) {
	for _, long := range lengths {
		b := sample(long)
		l := rowOf(b)
		for at := 0; at <= len(l); at++ {
			for how, r := range ways(b, at) {
				for range 2 {
					if e := r.Align(); e != api.OK {
						t.Error(long, at, how, e)
					}
					follows(t, r, l, aligned(at), long, at, how)
				}
			}
		}
	}
}

// P2.2: Raw, at every place, up to the last byte, one past it, below 0, huge.
func TestReaderRaw(t *testing.T) {
	for _, long := range lengths {
		b := sample(long)
		l := rowOf(b)
		for at := 0; at <= len(l); at++ {
			tries := []int{math.MinInt, math.MinInt / 8, -1 << 32, -1, 1 << 32, math.MaxInt/8 + 1, 1 << 61, math.MaxInt}
			for n := 0; n <= long+2; n++ {
				tries = append(tries, n)
			}
			for _, n := range tries {
				for how, r := range ways(b, at) {
					next, want, e := at, []byte(nil), api.OK
					switch {
					case n < 0:
						e = api.ErrArg
					case at%8 != 0 || n > long-at/8:
						e = api.ErrBits
					default:
						want, next = b[at/8:at/8+n], at+8*n
					}
					x, f := r.Raw(n)
					if !bytes.Equal(x, want) || f != e || f != api.OK && x != nil {
						t.Errorf("%d bytes at %d (%s), Raw %d: %x %v, not %x %v", long, at, how, n, x, f, want, e)
					}
					follows(t, r, l, next, long, at, how, n)
				}
			}
		}
	}
}

// P2.2: bytes that are handed in, and those handed out, are kept apart from the reader's, spare room included.
func TestReaderKeepsApart(t *testing.T) {
	room := []byte{1, 2, 3, 4, 5, 6}
	r := NewReader(room[:4])
	if x, n, e := r.Peek(57); x != 0x04030201 || n != 32 || e != api.OK {
		t.Error(x, n, e)
	}
	again := r.Copy()
	one, _ := r.Raw(4)
	if !bytes.Equal(room, []byte{1, 2, 3, 4, 5, 6}) {
		t.Error("what was handed in has changed:", room)
	}
	clear(room)
	clear(one[:cap(one)])
	if two, e := again.Raw(4); e != api.OK || !bytes.Equal(two, []byte{1, 2, 3, 4}) {
		t.Error(two, e)
	}
	for _, peeked := range []int{0, 1, 57} {
		b := sample(20)
		r = NewReader(b)
		r.Peek(peeked)
		clear(b)
		follows(t, r, rowOf(sample(20)), 0, "cleared behind", peeked)
		if all, e := r.Raw(20); e != api.OK || !bytes.Equal(all, sample(20)) {
			t.Error(peeked, all, e)
		}
	}
	r = NewReader([]byte{1, 2, 3, 4})
	one, _ = r.Raw(2)
	clear(one[:cap(one)])
	one = append(one, 9, 9)
	if two, e := r.Raw(2); e != api.OK || !bytes.Equal(two, []byte{3, 4}) {
		t.Error(two, e)
	}
}

// P2.3: Turned, of every n, below 0 and above 64 too.
func TestTurned(t *testing.T) {
	tries := []int{math.MinInt, -1 << 32, 1 << 32, math.MaxInt}
	for n := -70; n <= 140; n++ {
		tries = append(tries, n)
	}
	for _, n := range tries {
		for _, x := range append(numbers(n), numbers(64)...) {
			var want uint64
			for i := 0; i < min(n, 64); i++ {
				want = want*2 + x>>i%2
			}
			if y := Turned(x, n); y != want {
				t.Errorf("%x of %d: %x, not %x", x, n, y, want)
			}
		}
	}
}

// P2.3: a writer's copy goes on apart, and so does what it was copied of, wherever they stand.
func TestWriterCopy(t *testing.T) {
	for from := 0; from <= 80; from++ {
		w, l := begun(from)
		c := w.Copy()
		if c == w {
			t.Fatal("it is the same one")
		}
		tells(t, c, l, from)
		w.Put(0x155, 9)
		c.Put(0x1eee, 13)
		d := c.Copy()
		w.Put(3, 2)
		d.Code(1, 4)
		tells(t, w, l.with(0x155, 9).with(3, 2), from)
		tells(t, c, l.with(0x1eee, 13), from)
		tells(t, d, l.with(0x1eee, 13).withCode(1, 4), from)
	}
}

// P2.3: a reader's copy goes on apart, and so does what it was copied of, wherever they stand.
func TestReaderCopy(t *testing.T) {
	b := sample(20)
	l := rowOf(b)
	for at := 0; at <= len(l)-11; at++ {
		for how, r := range ways(b, at) {
			c := r.Copy()
			if c == r {
				t.Fatal("it is the same one")
			}
			r.Take(4)
			c.Skip(11)
			d := c.Copy()
			d.Align()
			follows(t, r, l, at+4, at, how)
			follows(t, c, l, at+11, at, how)
			follows(t, d, l, aligned(at+11), at, how)
		}
	}
}

// P2.1, P2.3: nil writers refuse, ahead of all else, and tell nothing.
func TestNilWriter(t *testing.T) {
	var w *Writer
	for _, e := range []api.Errno{w.Put(0, 0), w.Put(4, 2), w.Put(0, -1), w.Code(0, 0), w.Code(4, 2), w.Code(0, 58), w.Align(), w.Raw(nil), w.Raw([]byte{1})} {
		if e != api.ErrNil {
			t.Error(e)
		}
	}
	if w.Len() != 0 || len(w.Bytes()) != 0 || w.Copy() != nil {
		t.Error(w.Len(), w.Bytes(), w.Copy())
	}
}

// P2.2, P2.3: nil readers refuse, ahead of all else, and tell nothing.
func TestNilReader(t *testing.T) {
	var r *Reader
	for _, n := range []int{math.MinInt, -1, 0, 1, 57, 58, math.MaxInt} {
		if x, e := r.Take(n); x != 0 || e != api.ErrNil {
			t.Error(n, x, e)
		}
		if x, k, e := r.Peek(n); x != 0 || k != 0 || e != api.ErrNil {
			t.Error(n, x, k, e)
		}
		if x, e := r.Raw(n); x != nil || e != api.ErrNil {
			t.Error(n, x, e)
		}
		if e := r.Skip(n); e != api.ErrNil {
			t.Error(n, e)
		}
	}
	if e := r.Align(); e != api.ErrNil || r.At() != 0 || r.Left() != 0 || r.Copy() != nil {
		t.Error(e, r.At(), r.Left(), r.Copy())
	}
}

// P2.3: a zero writer is as a new one.
func TestZeroWriter(t *testing.T) {
	var w Writer
	tells(t, &w, row{}, "zero")
	if c := w.Copy(); c == nil || c.Len() != 0 || c.Put(1, 1) != api.OK || c.Len() != 1 {
		t.Error("its copy")
	}
	if w.Put(4, 2) != api.ErrArg || w.Align() != api.OK || w.Raw([]byte{3}) != api.OK || w.Code(1, 2) != api.OK || w.Put(2, 2) != api.OK {
		t.Error("refused")
	}
	tells(t, &w, row{}.with(3, 8).with(2, 2).with(2, 2), "used")
}

// P2.3: a zero reader is as one of no bytes; so is one of nil, and one of an empty list.
func TestReaderOfNothing(t *testing.T) {
	for _, r := range []*Reader{{}, NewReader(nil), NewReader([]byte{}), (&Reader{}).Copy(), NewReader(nil).Copy()} {
		if r == nil {
			t.Fatal("there is none")
		}
		if x, e := r.Take(0); x != 0 || e != api.OK {
			t.Error(x, e)
		}
		if x, e := r.Take(1); x != 0 || e != api.ErrBits {
			t.Error(x, e)
		}
		if x, e := r.Take(58); x != 0 || e != api.ErrArg {
			t.Error(x, e)
		}
		if x, k, e := r.Peek(57); x != 0 || k != 0 || e != api.OK {
			t.Error(x, k, e)
		}
		if x, e := r.Raw(0); len(x) != 0 || e != api.OK {
			t.Error(x, e)
		}
		if x, e := r.Raw(1); x != nil || e != api.ErrBits {
			t.Error(x, e)
		}
		if r.Skip(0) != api.OK || r.Skip(1) != api.ErrBits || r.Skip(-1) != api.ErrArg || r.Align() != api.OK {
			t.Error("Skip, Align")
		}
		stands(t, r, 0, 0, "nothing")
	}
}

// P2.4: what was put is taken as it was, each pair of widths beside each other, from each place in a byte.
func TestPairsThereAndBack(t *testing.T) {
	for from := 0; from < 8; from++ {
		for n := 0; n <= 57; n++ {
			for m := 0; m <= 57; m++ {
				x, y := uint64(0x9e3779b97f4a7c15)>>(64-n), uint64(0xc2b2ae3d27d4eb4f)>>(64-m)
				w := NewWriter()
				if w.Put(0, from) != api.OK || w.Put(x, n) != api.OK || w.Code(y, m) != api.OK || w.Len() != from+n+m {
					t.Fatal(from, n, m)
				}
				r := NewReader(w.Bytes())
				r.Skip(from)
				if z, e := r.Take(n); z != x || e != api.OK {
					t.Error(from, n, m, z, e)
				}
				if z, e := r.Take(m); Turned(z, m) != y || e != api.OK {
					t.Error(from, n, m, z, e)
				}
			}
		}
	}
}

// picks is numbers that look mixed, the same each time.
type picks uint64

func (p *picks) next() uint64 {
	*p ^= *p << 13
	*p ^= *p >> 7
	*p ^= *p << 17
	return uint64(*p)
}

// piece is what stands in a row of mixed things: a number, a code, noughts up to a byte's beginning, bytes.
type piece struct {
	kind int
	x    uint64
	n    int
	raw  []byte
}

// mixed puts some 200 pieces, and tells them.
func mixed(t *testing.T, p *picks, w *Writer) (l []piece, want row) {
	for range 200 {
		c := piece{kind: int(p.next() % 8), n: int(p.next() % 58)}
		c.x = p.next() % (1 << c.n)
		e := api.OK
		switch c.kind {
		case 0:
			e, want = w.Align(), want.with(0, aligned(len(want))-len(want))
		case 1:
			w.Align()
			want = want.with(0, aligned(len(want))-len(want))
			c.raw = sample(c.n)
			e, want = w.Raw(c.raw), append(want, rowOf(c.raw)...)
		case 2, 3, 4:
			e, want = w.Code(c.x, c.n), want.withCode(c.x, c.n)
		default:
			e, want = w.Put(c.x, c.n), want.with(c.x, c.n)
		}
		if e != api.OK {
			t.Fatal(c, e)
		}
		l = append(l, c)
	}
	return l, want
}

// P2.4: numbers, codes and bytes of mixed widths are taken as they were put, in order; there are as many bytes as the bits need.
func TestMixedThereAndBack(t *testing.T) {
	p := picks(88172645463325252)
	for range 60 {
		w := NewWriter()
		l, want := mixed(t, &p, w)
		tells(t, w, want, "mixed")
		if n := len(w.Bytes()); n*8 < w.Len() || n*8-w.Len() > 7 {
			t.Error(n, w.Len())
		}
		r := NewReader(w.Bytes())
		for i, c := range l {
			var x uint64
			e := api.OK
			switch c.kind {
			case 0:
				e, c.x = r.Align(), 0
			case 1:
				r.Align()
				var b []byte
				b, e = r.Raw(c.n)
				c.x = 0
				if !bytes.Equal(b, c.raw) {
					t.Fatal(i, c, b)
				}
			case 2, 3, 4:
				x, e = r.Take(c.n)
				x = Turned(x, c.n)
			default:
				x, e = r.Take(c.n)
			}
			if x != c.x || e != api.OK {
				t.Fatal(i, c, x, e)
			}
		}
		if r.Left() > 7 || r.At() != w.Len() {
			t.Error(r.At(), r.Left(), w.Len())
		}
	}
}

// P2.4: a code of n bits is its Turned number of n bits.
func TestCodeIsTurned(t *testing.T) {
	for from := 0; from < 8; from++ {
		for n := 0; n <= 57; n++ {
			for _, x := range numbers(n) {
				if !fits(x, n) {
					continue
				}
				w, _ := begun(from)
				v := w.Copy()
				if w.Code(x, n) != api.OK || v.Put(Turned(x, n), n) != api.OK || w.Len() != v.Len() || !bytes.Equal(w.Bytes(), v.Bytes()) {
					t.Error(from, n, x, w.Bytes(), v.Bytes())
				}
			}
		}
	}
}

// P2.1: the document's rows of writers.
func TestWriterExamples(t *testing.T) {
	w := NewWriter()
	w.Put(1, 1)
	w.Put(2, 2)
	w.Put(255, 8)
	if w.Len() != 11 || !bytes.Equal(w.Bytes(), []byte{0xfd, 7}) {
		t.Error(w.Len(), w.Bytes())
	}
	w = NewWriter()
	w.Code(4, 3)
	w.Put(3, 2)
	if !bytes.Equal(w.Bytes(), []byte{0x19}) {
		t.Error(w.Bytes())
	}
	w = NewWriter()
	w.Put(1, 1)
	if w.Raw(nil) != api.ErrBits || w.Align() != api.OK || w.Raw([]byte{0xaa}) != api.OK || !bytes.Equal(w.Bytes(), []byte{1, 0xaa}) {
		t.Error(w.Bytes())
	}
	if w.Put(4, 2) != api.ErrArg || w.Put(0, 58) != api.ErrArg || w.Put(0, -1) != api.ErrArg {
		t.Error("taken")
	}
}

// P2.2: the document's rows of readers.
func TestReaderExamples(t *testing.T) {
	r := NewReader([]byte{0xfd, 7})
	a, _ := r.Take(1)
	b, _ := r.Take(2)
	c, n, _ := r.Peek(16)
	_, e := r.Take(14)
	d, _ := r.Take(13)
	if a != 1 || b != 2 || c != 255 || n != 13 || e != api.ErrBits || d != 255 || r.Left() != 0 {
		t.Error(a, b, c, n, e, d, r.Left())
	}
	r = NewReader([]byte{1, 0xaa, 0x55})
	x, _ := r.Raw(1)
	a, _ = r.Take(3)
	_, e = r.Raw(1)
	f := r.Align()
	_, g := r.Raw(2)
	y, _ := r.Raw(1)
	if !bytes.Equal(x, []byte{1}) || a != 2 || e != api.ErrBits || f != api.OK || g != api.ErrBits || !bytes.Equal(y, []byte{0x55}) || r.At() != 24 {
		t.Error(x, a, e, f, g, y, r.At())
	}
}

// P2.3: the document's row of Turned.
func TestTurnedExamples(t *testing.T) {
	if Turned(1, 3) != 4 || Turned(6, 3) != 3 || Turned(1, 64) != 1<<63 || Turned(9, 0) != 0 {
		t.Error(Turned(1, 3), Turned(6, 3), Turned(1, 64), Turned(9, 0))
	}
}
