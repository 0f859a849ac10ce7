package image

import (
	"bytes"
	"fmt"
	"math"
	"math/rand"
	"testing"

	"palimpsest/api"
	"palimpsest/store"
)

// far are places that no file has.
func far() []int64 {
	return []int64{-1, -512, math.MinInt64, math.MaxInt64, 1 << 40, api.MaxFile, api.MaxFile + 512}
}

// counts holds Count of a place against what it should be.
func counts(t testing.TB, x *Image, place int64, should uint64) {
	t.Helper()
	if n, no := x.Count(place); n != should || no != api.OK {
		t.Fatalf("Count(%d): %d, %v; want %d", place, n, no, should)
	}
}

// uncounted holds a refused Count against its error.
func uncounted(t testing.TB, x *Image, place int64, should api.Errno) {
	t.Helper()
	if n, no := x.Count(place); n != 0 || no != should {
		t.Fatalf("Count(%d): %d, %v; want %v", place, n, no, should)
	}
}

// unread holds a refused Read against its error.
func unread(t testing.TB, x *Image, place int64, n int, should api.Errno) {
	t.Helper()
	if b, no := x.Read(place, n); b != nil || no != should {
		t.Fatalf("Read(%d, %d): %v, %v; want %v", place, n, b, no, should)
	}
}

// P17.5: the count of the cluster that a place lies in, each place of a cluster; none below 0, at the file's end, behind it.
func TestCount(t *testing.T) {
	rnd := rand.New(rand.NewSource(175))
	for range 40 {
		p := someImage(t, rnd)
		q := read(p.b)
		end := int64(len(p.b))
		x := open(t, p.laid(), false)
		for place := int64(0); place < end; place += q.c {
			should, _ := q.count(place / q.c)
			for _, in := range []int64{0, 1, q.c / 2, q.c - 1} {
				counts(t, x, place+in, should)
			}
		}
		for _, place := range append(far(), end, end+1, end+q.c) {
			uncounted(t, x, place, api.ErrRange)
		}
	}
}

// P17.5: of a cluster of which the file has a part alone.
func TestCountOfAPart(t *testing.T) {
	p := small(t, 9, 4)
	p.b = append(p.b, 1, 2, 3)
	x := open(t, p.laid(), false)
	end := int64(len(p.b))
	counts(t, x, end-1, 0)
	counts(t, x, end-3, 0)
	counts(t, x, end-4, 1)
	uncounted(t, x, end, api.ErrRange)
}

// P17.5: of counts' blocks that do not lie within the file, and of a cluster that the counts' table cannot tell of.
func TestCountThatCannotBeRead(t *testing.T) {
	p := small(t, 9, 4)
	p.word(p.h.Counts, 7)
	x := open(t, p.laid(), false)
	uncounted(t, x, 0, api.ErrBroken)
	uncounted(t, x, int64(len(p.b)), api.ErrRange)
	small := drawn(t, 9, 6, 0, 9).sealed()
	small.b = append(small.b, make([]byte, 64*64*512)...)
	x = open(t, small.laid(), false)
	counts(t, x, 64*64*512-1, 0)
	uncounted(t, x, 64*64*512, api.ErrRange)
}

// P17.5: all bytes of the file, from each place on, and none; more than the file has are refused.
func TestRead(t *testing.T) {
	p := small(t, 9, 4)
	s := p.laid()
	end := int64(len(p.b))
	for _, write := range []bool{false, true} {
		x := open(t, s, write)
		b := whole(t, s)
		for _, place := range []int64{0, 1, 511, 512, 700, end - 512, end - 1, end} {
			for _, n := range []int{0, 1, 2, 511, 512, 513, 1500, int(end - place), int(end-place) + 1, len(b), math.MaxInt} {
				if int64(n) > end-place {
					unread(t, x, place, n, api.ErrRange)
					continue
				}
				have, no := x.Read(place, n)
				want(t, no, api.OK)
				sameBytes(t, have, b[place:][:n], place, n)
			}
			unread(t, x, place, -1, api.ErrRange)
			unread(t, x, place, math.MinInt, api.ErrRange)
		}
		for _, place := range append(far(), end+1) {
			unread(t, x, place, 0, api.ErrRange)
			unread(t, x, place, 1, api.ErrRange)
		}
		// What is answered is the caller's.
		have, _ := x.Read(0, int(end))
		clear(have)
		sameBytes(t, whole(t, s), b)
	}
}

// P17.5: bytes are written over those that are there; they last behind a flush, and not ahead of it.
func TestWrite(t *testing.T) {
	p := small(t, 9, 4)
	s, x := p.opened()
	at, no := x.Alloc(2)
	want(t, no, api.OK)
	end := int64(len(whole(t, s)))
	for _, w := range []struct {
		place int64
		n     int
	}{{at, 1}, {at, 512}, {at + 3, 700}, {at, 1024}, {at + 511, 2}, {at, 0}, {end - 1, 1}, {end, 0}, {0, 0}, {end - 1024, 1024}} {
		b := bytes.Repeat([]byte{byte(w.n) + 1}, w.n)
		should := whole(t, s)
		copy(should[w.place:], b)
		was := whole(t, lasting(t, s))
		want(t, x.Write(w.place, b), api.OK)
		sameBytes(t, whole(t, s), should)
		sameBytes(t, whole(t, lasting(t, s)), was)
		for i := range b {
			b[i] = 99 // it is the caller's still
		}
		sameBytes(t, whole(t, s), should)
		want(t, x.Flush(), api.OK)
		sameBytes(t, whole(t, lasting(t, s)), should)
	}
	unchanged(t, s, func() {
		for _, place := range append(far(), end+1) {
			want(t, x.Write(place, nil), api.ErrRange)
			want(t, x.Write(place, []byte{1}), api.ErrRange)
		}
		for place, n := range map[int64]int{end: 1, end - 1: 2, end - 512: 513, 0: int(end) + 1, 512: int(end)} {
			want(t, x.Write(place, make([]byte, n)), api.ErrRange)
		}
	})
	leaky(t, s)
}

// P17.5: runs are taken as layer 16 takes them: what was free, counted, and that lasts.
func TestAlloc(t *testing.T) {
	p := small(t, 9, 4)
	s, x := p.opened()
	for _, n := range []int{1, 2, 7, 1, 230, 3, 300} {
		before := read(whole(t, s))
		place, no := x.Alloc(n)
		if n == 300 {
			if place != 0 || no != api.ErrFull {
				t.Fatal(place, no)
			}
			continue
		}
		want(t, no, api.OK)
		now := read(whole(t, s))
		more := map[int64]uint64{}
		for k := range int64(n) {
			more[place/512+k]++
			if x, _ := before.count(place/512 + k); x != 0 || place+(k+1)*512 > int64(len(now.b)) {
				t.Fatal("it was not free, or is not there", place, k)
			}
		}
		if wrong := counted(before, now, more, nil); wrong != "" || s.Pending() != 0 || len(changed(before, now)) > 0 {
			t.Fatal(wrong)
		}
		leaky(t, s)
	}
	unchanged(t, s, func() {
		for _, n := range []int{0, -1, 1<<20 + 1, math.MaxInt, math.MinInt} {
			if place, no := x.Alloc(n); place != 0 || no != api.ErrArg {
				t.Fatal(place, no)
			}
		}
		if place, no := x.Alloc(1 << 20); place != 0 || no != api.ErrFull {
			t.Fatal(place, no)
		}
	})
	state(t, x, true, false, false)
}

// P17.5: runs are given back as layer 16 does it: one less each; it is not flushed.
func TestFree(t *testing.T) {
	p := small(t, 9, 4)
	s, x := p.opened()
	place, no := x.Alloc(5)
	want(t, no, api.OK)
	before := read(whole(t, s))
	want(t, x.Free(place+512, 3), api.OK)
	k := place/512 + 1
	now := read(whole(t, s))
	if wrong := counted(before, now, nil, map[int64]uint64{k: 1, k + 1: 1, k + 2: 1}); wrong != "" || len(changed(before, now)) > 0 {
		t.Fatal(wrong)
	}
	if wrong := counted(before, read(whole(t, lasting(t, s))), nil, nil); wrong != "" {
		t.Fatal("it was flushed", wrong)
	}
	unchanged(t, s, func() {
		for _, n := range []int{0, -1, 1<<20 + 1, math.MaxInt, math.MinInt} {
			for _, at := range []int64{place, -1, 1} {
				want(t, x.Free(at, n), api.ErrArg)
			}
		}
		for _, at := range []int64{-1, -512, place + 1, place + 511, math.MinInt64, math.MaxInt64} {
			want(t, x.Free(at, 1), api.ErrRange)
		}
		want(t, x.Free(64*256*512, 1), api.ErrRange)
		want(t, x.Free(place+512, 1), api.ErrBroken)
		want(t, x.Free(place, 2), api.ErrBroken)
	})
	want(t, x.Free(place, 1), api.OK)
	want(t, x.Free(place+4*512, 1), api.OK)
	if again, no := x.Alloc(5); again != place || no != api.OK {
		t.Log("another run was taken", again, no)
	}
	leaky(t, s)
}

// P17.5: one more of a cluster, by each place in it, and that lasts.
func TestShare(t *testing.T) {
	for _, order := range []int{1, 2, 3, 4, 6} {
		p := drawn(t, 10, order, 1024*10, 30)
		e := p.data('a')
		p.root(p.tree(p.table(map[int]api.Entry{0: e})))
		s, x := p.sealed().opened()
		end := int64(len(p.b))
		n := uint64(1)
		for _, in := range []int64{0, 1, 511, 512, 1023} {
			before := read(whole(t, s))
			if n == before.most() {
				break
			}
			want(t, x.Share(e.Place+in), api.OK)
			n++
			counts(t, x, e.Place, n)
			now := read(whole(t, s))
			if wrong := counted(before, now, map[int64]uint64{e.Place / 1024: 1}, nil); wrong != "" || s.Pending() != 0 || len(changed(before, now)) > 0 {
				t.Fatal(wrong)
			}
		}
		unchanged(t, s, func() {
			for _, place := range append(far(), end, end+1) {
				want(t, x.Share(place), api.ErrRange)
			}
		})
		leaky(t, s)
	}
}

// P17.5: a count that is full is not made more.
func TestShareOfAFullCount(t *testing.T) {
	for order, most := range []int{1, 3, 15, 255, 65535} {
		p := drawn(t, 9, order, 0, 9)
		at := p.take(512)
		p.sealed()
		read(p.b).set(at/512, uint64(most-1))
		s, x := p.opened()
		want(t, x.Share(at+9), api.OK)
		unchanged(t, s, func() { want(t, x.Share(at), api.ErrFull) })
		state(t, x, true, false, false)
		counts(t, x, at, uint64(most))
		want(t, x.Flush(), api.OK)
	}
	p := drawn(t, 9, 6, 0, 9)
	at := p.take(512)
	p.sealed()
	read(p.b).set(at/512, math.MaxUint64-1)
	_, x := p.opened()
	want(t, x.Share(at), api.OK)
	want(t, x.Share(at), api.ErrFull)
	counts(t, x, at, math.MaxUint64)
}

// saves saves bytes, and holds all that is there then against the plain way.
func saves(t testing.TB, s *store.Store, x *Image, b []byte) int64 {
	t.Helper()
	before := read(whole(t, s))
	place, no := x.Save(b)
	want(t, no, api.OK)
	now := read(whole(t, s))
	n := max((int64(len(b))+now.c-1)/now.c, 1)
	if place <= 0 || place%now.c != 0 || place+n*now.c > int64(len(now.b)) {
		t.Fatal("no run", place, n)
	}
	sameBytes(t, now.b[place:place+int64(len(b))], b)
	sameBytes(t, now.b[place+int64(len(b)):place+n*now.c], make([]byte, n*now.c-int64(len(b))))
	more := map[int64]uint64{}
	for k := range n {
		more[place/now.c+k]++
		if free, _ := before.count(place/now.c + k); free != 0 {
			t.Fatal("it was not free", k)
		}
	}
	for _, at := range changed(before, now) {
		if at < place || at >= place+n*now.c {
			t.Fatal("other bytes have changed", at)
		}
	}
	if wrong := counted(before, now, more, nil); wrong != "" || s.Pending() != 0 {
		t.Fatal(wrong, s.Pending())
	}
	return place
}

// P17.5: bytes are saved in a run of their own, noughts behind them, and that lasts; whatever stood there before.
func TestSave(t *testing.T) {
	for _, bits := range []int{9, 10, 12} {
		p := small(t, bits, 4)
		c := 1 << bits
		s, x := p.opened()
		dirt, no := x.Alloc(40)
		want(t, no, api.OK)
		want(t, x.Write(dirt, bytes.Repeat([]byte{0xee}, 40*c)), api.OK)
		want(t, x.Free(dirt, 40), api.OK)
		for _, n := range []int{0, 1, c - 1, c, c + 1, 3 * c, 5*c + 7} {
			b := bytes.Repeat([]byte{byte(n) | 1}, n)
			kept := bytes.Clone(b)
			saves(t, s, x, b)
			sameBytes(t, b, kept)
		}
		saves(t, s, x, nil)
		leaky(t, s)
	}
}

// P17.5: many bytes are saved as well, as long as there is room.
func TestSaveOfMany(t *testing.T) {
	s := created(t, api.Make{Bits: 16, Order: 6, Size: api.MaxGuest})
	x := open(t, s, true)
	b := bytes.Repeat([]byte{1, 2, 3}, api.MaxFile/20)
	place, no := x.Save(b)
	want(t, no, api.OK)
	have, no := x.Read(place, len(b))
	want(t, no, api.OK)
	sameBytes(t, have, b)
	leaky(t, s)
}

// P17.5: of more bytes than there is room for nothing is saved, however many there are.
func TestSaveOfTooMuch(t *testing.T) {
	p := drawn(t, 9, 6, 0, 60)
	s, x := full(t, p.sealed())
	unchanged(t, s, func() {
		for _, n := range []int{0, 1, 512, 513, 1 << 20, api.MaxFile, api.MaxFile + 1, 1<<29 + 1} {
			if place, no := x.Save(make([]byte, n)); place != 0 || no != api.ErrFull {
				t.Fatal(n, place, no)
			}
		}
	})
	state(t, x, true, false, false)
	leaky(t, s)
}

// P17.5: Flush lets all that was written last.
func TestFlush(t *testing.T) {
	s, x := small(t, 9, 4).opened()
	at, _ := x.Alloc(1)
	for i := range 3 {
		want(t, x.Write(at+int64(i)*100, []byte(fmt.Sprint("part", i))), api.OK)
	}
	want(t, x.Free(at, 1), api.OK)
	b := whole(t, s)
	want(t, x.Flush(), api.OK)
	if s.Pending() != 0 {
		t.Error("not all lasts")
	}
	sameBytes(t, whole(t, lasting(t, s)), b)
	before := steps(s)
	want(t, x.Flush(), api.OK)
	if steps(s) != before+1 {
		t.Error("no step")
	}
}
