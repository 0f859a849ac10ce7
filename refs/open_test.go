package refs

import (
	"math"
	"strings"
	"testing"

	"palimpsest/api"
	"palimpsest/head"
	"palimpsest/store"
)

// P16.1: Open of what is no store, no name, no file, no image.
func TestOpenRefuses(t *testing.T) {
	s := right(t, 9, 4, 1).laid(t)
	b := whole(t, s)
	bent := append([]byte{}, b...)
	bent[300]++
	for name, b := range map[string][]byte{"empty": nil, "short": b[:511], "bent": bent, "late": append([]byte{0}, b...)} {
		want(t, s.Create(name), api.OK)
		want(t, s.Write(name, 0, b), api.OK)
	}
	long := strings.Repeat("n", api.MaxName+1)
	for _, c := range []struct {
		s    *store.Store
		name string
		no   api.Errno
	}{
		{nil, file, api.ErrNil}, {nil, "", api.ErrNil}, {nil, long, api.ErrNil},
		{&store.Store{}, file, api.ErrNil}, {&store.Store{}, "", api.ErrNil},
		{s, "", api.ErrArg}, {s, long, api.ErrArg}, {s, "f\x00", api.ErrArg}, {s, "\x00", api.ErrArg},
		{s, "g", api.ErrNone}, {s, long[1:], api.ErrNone},
		{s, "empty", api.ErrHead}, {s, "short", api.ErrHead}, {s, "bent", api.ErrHead}, {s, "late", api.ErrHead},
	} {
		if r, no := Open(c.s, c.name); r != nil || no != c.no {
			t.Errorf("%q: %v, %v; want %v", c.name, r, no, c.no)
		}
	}
}

// P16.1: a head alone is enough, however little of the file is there; nothing is written for it.
func TestOpenOfAHeadAlone(t *testing.T) {
	for bits := 9; bits <= 16; bits++ {
		p := right(t, bits, 3, 2)
		p.b = p.b[:512]
		s := p.laid(t)
		unchanged(t, s, func() {
			r := open(t, s)
			if r.Room() != 2*(p.c/8)*p.c {
				t.Error(bits, r.Room())
			}
			uncounted(t, r, 0, api.ErrBroken)
			uncounted(t, r, r.Room(), api.ErrRange)
			untaken(t, r, 1, api.ErrBroken)
			want(t, r.Add(1, 0), api.ErrBroken)
			want(t, r.Free(0, 1), api.ErrBroken)
		})
	}
}

// All chapters: every method of no refs, and of a zero one, whatever it is handed.
func TestNoRefs(t *testing.T) {
	for _, r := range []*Refs{nil, {}} {
		if r.Room() != 0 {
			t.Error(r.Room())
		}
		for _, k := range []int64{0, 1, -1, math.MaxInt64, math.MinInt64} {
			uncounted(t, r, k, api.ErrNil)
			want(t, r.Grow(k), api.ErrNil)
			for _, n := range []int{0, 1, -1, 1 << 20, 1<<20 + 1, math.MaxInt} {
				want(t, r.Free(k, n), api.ErrNil)
				untaken(t, r, n, api.ErrNil)
			}
			for _, by := range []int64{0, 1, -1, 2, k} {
				want(t, r.Add(by), api.ErrNil)
				want(t, r.Add(by, k, k), api.ErrNil)
			}
		}
	}
}

// P16.1: Room of each size of clusters, each width of counts, of one cluster of the counts' table and of several.
func TestRoom(t *testing.T) {
	t.Parallel()
	for bits := 9; bits <= 16; bits++ {
		for order := range 7 {
			for _, long := range []int{1, 2, 3, 100, 1 << 16} {
				p := drawn(t, bits, order, 1, long, 1)
				s, r := p.opened(t)
				width := []int64{1, 2, 4, 8, 16, 32, 64}[order]
				if room := int64(long) * (p.c / 8) * (p.c * 8 / width); r.Room() != room {
					t.Errorf("Bits %d, Order %d, CountsLen %d: %d, want %d", bits, order, long, r.Room(), room)
				}
				uncounted(t, r, r.Room(), api.ErrRange)
				want(t, s.Remove(file), api.OK)
				if r.Room() == 0 {
					t.Error("it is kept")
				}
			}
		}
	}
	_, r := right(t, 9, 4, 1).opened(t)
	if r.Room() != 64*256 {
		t.Error(r.Room())
	}
}

// Words: what the head said when it was opened is kept, and nothing else of it is asked for again.
func TestHeadIsKept(t *testing.T) {
	s, r := right(t, 9, 4, 1).opened(t)
	other, no := head.Bytes(api.Head{Bits: 10, Order: 0, Counts: 4096, CountsLen: 7})
	want(t, no, api.OK)
	for _, b := range [][]byte{other, make([]byte, 512)} {
		want(t, s.Write(file, 0, b), api.OK)
		if r.Room() != 64*256 {
			t.Error(r.Room())
		}
		counted(t, r, 2, 1)
		k := took(t, r, 1)
		counted(t, r, k, 1)
		want(t, r.Add(1, k), api.OK)
		counted(t, r, k, 2)
	}
	if _, no := Open(s, file); no != api.ErrHead {
		t.Error(no)
	}
}

// Errors: the file is gone. What is wrong of itself is told ahead of it, all else behind it.
func TestFileIsGone(t *testing.T) {
	s, r := right(t, 9, 4, 1).opened(t)
	want(t, s.Remove(file), api.OK)
	unchanged(t, s, func() {
		for _, k := range []int64{0, -1, r.Room(), math.MaxInt64} {
			uncounted(t, r, k, api.ErrNone)
			want(t, r.Add(1, k), api.ErrNone)
			want(t, r.Add(-1, 0, k), api.ErrNone)
			want(t, r.Add(2, k), api.ErrArg)
			want(t, r.Grow(k), api.ErrNone)
		}
		want(t, r.Add(1), api.ErrNone)
		want(t, r.Add(0), api.ErrArg)
		untaken(t, r, 1, api.ErrNone)
		untaken(t, r, 1<<20, api.ErrNone)
		untaken(t, r, 0, api.ErrArg)
		untaken(t, r, 1<<20+1, api.ErrArg)
		want(t, r.Free(512, 1), api.ErrNone)
		want(t, r.Free(1<<40, 1), api.ErrNone)
		want(t, r.Free(1, 0), api.ErrArg)
		want(t, r.Free(1, 1), api.ErrRange)
		want(t, r.Free(-512, 1), api.ErrRange)
	})
}
