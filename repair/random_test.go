package repair

import (
	"encoding/binary"
	"fmt"
	"math/rand"
	"testing"

	"palimpsest/api"
	"palimpsest/check"
	"palimpsest/head"
)

// someWord is a word that may mean something in a table of a small image.
func someWord(rnd *rand.Rand, c int64) uint64 {
	place := rnd.Int63n(24) * c
	switch rnd.Intn(9) {
	case 0, 1:
		return 0
	case 2:
		return uint64(rnd.Intn(8))
	case 3:
		return uint64(place)
	case 4, 5, 6:
		return data(place)
	case 7:
		return packed(place+rnd.Int63n(c), rnd.Intn(int(c)))
	}
	return rnd.Uint64() >> rnd.Intn(64)
}

// kept holds that an image in which nothing was found ahead of a Repair has all its bytes as before.
func kept(t testing.TB, p *picture) (api.Fixed, api.Errno) {
	t.Helper()
	r, _ := check.Bytes(p.b)
	s := p.laid()
	f, no := mended(t, s)
	if len(r.Finds) == 0 {
		want(t, no, api.OK)
		sameBytes(t, whole(t, s), marked(p.b, false))
	}
	return f, no
}

// P18.1, P18.3: images bent at several places, in their tables and their counts, against the plain way.
func TestBentImages(t *testing.T) {
	for order := range 7 {
		t.Run(fmt.Sprint(order), func(t *testing.T) {
			t.Parallel()
			rnd := rand.New(rand.NewSource(int64(180 + order)))
			told := map[api.Errno]int{}
			sound := []*picture{full(t, 9, order), full(t, 10, order)}
			for i := range 500 {
				p := sound[i%2].bent()
				q := read(p.b)
				if rnd.Intn(3) == 0 {
					p = p.dirty()
				}
				for range rnd.Intn(4) {
					k := []uint64{uint64(rnd.Int63n(26)), uint64(rnd.Int63n(q.per()))}[rnd.Intn(2)]
					p = p.bent(k, rnd.Uint64()&q.most()>>rnd.Intn(1<<order))
				}
				for range rnd.Intn(3) {
					// The tables begin behind the blocks; what is no table there is data.
					p.word(p.c*(2+rnd.Int63n(14))+8*rnd.Int63n(6), someWord(rnd, p.c))
				}
				_, no := kept(t, p)
				told[no]++
			}
			if told[api.OK] < 100 || told[api.ErrBroken] < 50 || order < 2 && told[api.ErrFull] == 0 {
				t.Error(told)
			}
		})
	}
}

// P18.3 (P0.3): any bytes behind a head: each call ends, and does not panic; Repair refuses, and nothing is changed, or check finds nothing any more.
func TestAnyBytes(t *testing.T) {
	t.Parallel()
	rnd := rand.New(rand.NewSource(185))
	told := map[api.Errno]int{}
	for range 2000 {
		p := anyBytes(t, rnd)
		_, no := kept(t, p)
		told[no]++
		marks(t, p.laid(), rnd.Intn(2) == 0)
	}
	if told[api.OK] < 100 || told[api.ErrBroken] < 1000 {
		t.Error(told)
	}
}

// anyBytes is a file that begins with a head; behind it stand any bytes, or few, so that some of them are an image's.
func anyBytes(t testing.TB, rnd *rand.Rand) *picture {
	t.Helper()
	bits := 9 + rnd.Intn(2)
	c := int64(1) << bits
	h := api.Head{Bits: bits, Order: rnd.Intn(7), Counts: c, CountsLen: 1, Flags: uint64(rnd.Intn(2))}
	if rnd.Intn(2) == 0 {
		h.Size, h.L1, h.L1Len = rnd.Int63n(64)*512, (1+rnd.Int63n(8))*c, 1+rnd.Intn(70)
	}
	if rnd.Intn(4) == 0 {
		h.Counts, h.CountsLen = (1+rnd.Int63n(8))*c, 1+rnd.Intn(2)
	}
	if rnd.Intn(8) == 0 {
		h.Bitmaps, h.BitmapsAt, h.BitmapsLen = 1+rnd.Intn(2), (1+rnd.Int63n(8))*c, 1+rnd.Intn(40)
	}
	p := &picture{t: t, h: h, c: c, b: make([]byte, (3+rnd.Int63n(8))*c)}
	for range rnd.Intn(30) {
		p.word(512+8*rnd.Int63n((int64(len(p.b))-512)/8), someWord(rnd, c))
	}
	switch rnd.Intn(6) {
	case 0:
		rnd.Read(p.b[512:])
	case 1:
		for at := 512; at < len(p.b); at += 8 {
			binary.LittleEndian.PutUint64(p.b[at:], someWord(rnd, c))
		}
	default:
		p.word(c, uint64(2*c))
		rnd.Read(p.b[2*c+rnd.Int63n(c/8) : 2*c+c/8])
	}
	p.head()
	p.b = p.b[:len(p.b)-rnd.Intn(2)*rnd.Intn(int(c))]
	return p
}

// P18.3: bytes of a small image changed, each one where its head, its counts and its tables stand; of the head what is none is refused.
func TestBytesChanged(t *testing.T) {
	for _, order := range []int{1, 4} {
		t.Run(fmt.Sprint(order), func(t *testing.T) {
			t.Parallel()
			p := full(t, 9, order)
			told := map[api.Errno]int{}
			for at := range p.b {
				if at >= 512 && at%512 > 48 && at%9 > 0 {
					continue
				}
				p.b[at] ^= 1 << (at % 8)
				if _, no := head.Read(p.b); no == api.OK {
					f, no := kept(t, p)
					told[no]++
					if at/512 != 2 && f.Low+f.Leaks > 40 {
						t.Error(at, f)
					}
				} else {
					refused(t, p.laid(), name, api.ErrHead)
				}
				p.b[at] ^= 1 << (at % 8)
			}
			if told[api.OK] < 500 || told[api.ErrBroken] < 100 {
				t.Error(told)
			}
		})
	}
}
