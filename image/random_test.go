package image

import (
	"encoding/binary"
	"fmt"
	"maps"
	"math"
	"math/rand"
	"slices"
	"testing"

	"palimpsest/api"
	"palimpsest/head"
	"palimpsest/stops"
	"palimpsest/store"
	"palimpsest/tables"
)

// P17.1 to P17.8: longer scripts over new images: each answer and all counts against the plain way, snapshots made by hand, the image closed and opened, faults now and then, nothing but leaks found at any time, nor in some of what a crash may leave.
func TestLongScripts(t *testing.T) {
	for seed := range 30 {
		t.Run(fmt.Sprint(seed), func(t *testing.T) {
			t.Parallel()
			rnd := rand.New(rand.NewSource(int64(seed)))
			bits := 9 + rnd.Intn(2)
			m := api.Make{Bits: bits, Order: 4 + rnd.Intn(3), Size: rnd.Int63n(400) * 512}
			s := created(t, m)
			x := open(t, s, true)
			mine := map[int64]int{}
			for range 60 {
				x = scripted(t, rnd, s, x, mine)
				leaky(t, s)
				ways, _ := stops.Some(s, rnd.Uint64(), 4)
				for _, way := range ways {
					left, no := s.Crash(way...)
					want(t, no, api.OK)
					leaky(t, left)
				}
				q := read(whole(t, s))
				for k, n := range mine {
					for i := range int64(n) {
						if x, _ := q.count(k/q.c + i); x < 1 {
							t.Fatal("what was taken is not counted", k, i)
						}
					}
				}
			}
			want(t, x.Close(), api.OK)
			want(t, open(t, s, true).Close(), api.OK)
		})
	}
}

// scripted makes some call; mine are the runs that were taken. It tells the image, which may be opened anew.
func scripted(t testing.TB, rnd *rand.Rand, s *store.Store, x *Image, mine map[int64]int) *Image {
	t.Helper()
	q := read(whole(t, s))
	switch rnd.Intn(14) {
	case 0:
		want(t, x.Close(), api.OK)
		return open(t, s, true)
	case 1:
		n := 1 + rnd.Intn(5)
		at, no := x.Alloc(n)
		want(t, no, api.OK)
		mine[at] = n
	case 2:
		b := make([]byte, rnd.Intn(3*int(q.c)))
		rnd.Read(b)
		mine[saves(t, s, x, b)] = max((len(b)+int(q.c)-1)/int(q.c), 1)
	case 3:
		for _, at := range slices.Sorted(maps.Keys(mine)) {
			want(t, x.Write(at+rnd.Int63n(q.c), make([]byte, rnd.Intn(20))), api.OK)
			want(t, x.Free(at, mine[at]), api.OK)
			delete(mine, at)
			break
		}
	case 4:
		snapped(t, s, x)
	case 5:
		// A fault: what it leaves is told elsewhere. The image is opened again as a copy that says it is not dirty.
		feed(t, s, rnd.Intn(8), api.Fate{Kind: api.FateFail, Keep: rnd.Intn(2)})
		for no := api.OK; no == api.OK; {
			_, no = x.Save([]byte("some"))
			if no == api.OK && q.h.L1Len > 0 {
				no = x.Put(rnd.Int63n(int64(q.h.L1Len)*q.many()), api.Entry{Kind: api.EntryZero})
			}
		}
		state(t, x, true, true, false)
		want(t, x.Close(), api.ErrDead)
		leaky(t, s)
		h := read(whole(t, s)).h
		h.Flags = 0
		b, _ := head.Bytes(h)
		want(t, s.Write(name, 0, b), api.OK)
		return open(t, s, true)
	default:
		if q.h.L1Len == 0 {
			want(t, x.Put(0, api.Entry{}), api.ErrRange)
			break
		}
		e, no := someKind(t, rnd, x, q)
		want(t, no, api.OK)
		k := rnd.Int63n(int64(q.h.L1Len) * q.many())
		puts(t, s, x, []int64{k, k % 5, k % 70}[rnd.Intn(3)], e)
	}
	return x
}

// snapped makes a snapshot out of the calls of an image: the tree is held, its L1 table copied, the list saved, the head switched, the old list given back; of six the first one is taken away again.
func snapped(t testing.TB, s *store.Store, x *Image) {
	t.Helper()
	h, no := x.Head()
	want(t, no, api.OK)
	var list []api.Snap
	if h.Snaps > 0 {
		b, no := x.Read(h.SnapsAt, h.SnapsLen)
		want(t, no, api.OK)
		list, no = tables.ReadSnaps(h.Bits, b, h.Snaps)
		want(t, no, api.OK)
	}
	old := h
	drop := len(list) == 6
	var gone api.Snap
	if drop {
		gone, list = list[0], list[1:]
	} else {
		holds(t, s, x, root{h.L1, h.L1Len}, 1)
		snap := api.Snap{Name: fmt.Sprint(steps(s)), L1Len: h.L1Len, Size: h.Size}
		if h.L1Len > 0 {
			l1, no := x.Read(h.L1, 8*h.L1Len)
			want(t, no, api.OK)
			snap.L1 = saves(t, s, x, l1)
		}
		list = append(list, snap)
	}
	b, no := tables.Snaps(h.Bits, list...)
	want(t, no, api.OK)
	h.Snaps, h.SnapsAt, h.SnapsLen = len(list), saves(t, s, x, b), len(b)
	want(t, x.Switch(h), api.OK)
	free := func(place int64, long int) {
		if long > 0 {
			want(t, x.Free(place, (long+1<<h.Bits-1)>>h.Bits), api.OK)
		}
	}
	free(old.SnapsAt, old.SnapsLen)
	if drop {
		holds(t, s, x, root{gone.L1, gone.L1Len}, -1)
		free(gone.L1, 8*gone.L1Len)
	}
}

// anyBytes is a file that begins with a head, and any bytes behind it.
func anyBytes(t testing.TB, rnd *rand.Rand) *picture {
	t.Helper()
	bits := 9 + rnd.Intn(2)
	c := int64(1) << bits
	place := func() int64 { return (1 + rnd.Int63n(20)) * c }
	h := api.Head{Bits: bits, Order: rnd.Intn(7), Size: rnd.Int63n(1000) * 512, L1: place(), L1Len: 16 + rnd.Intn(200), Counts: place(), CountsLen: 1 + rnd.Intn(2), Flags: uint64(rnd.Intn(2) * rnd.Intn(2))}
	switch rnd.Intn(4) {
	case 0:
		h.Snaps, h.SnapsAt, h.SnapsLen = 1+rnd.Intn(3), place(), 1+rnd.Intn(1000)
	case 1:
		h.L1Len = 1 << 20
	}
	p := &picture{t: t, h: h, c: c, b: make([]byte, (1+rnd.Int63n(22))*c)}
	fill := rnd.Intn(5)
	for at := 512; at+8 <= len(p.b); at += 8 {
		w := uint64(0)
		switch {
		case fill == 0:
			w = rnd.Uint64()
		case fill == 1:
			w = 1<<64 - 1
		case rnd.Intn(3) == 0:
			w = uint64(rnd.Int63n(22)*c) + uint64(rnd.Intn(4)&rnd.Intn(4))
		case rnd.Intn(4) == 0:
			w = uint64(place()<<16 + rnd.Int63n(c)<<16 + rnd.Int63n(c)<<2 + 3)
		case rnd.Intn(20) == 0 && fill == 2:
			w = rnd.Uint64() >> rnd.Intn(64)
		}
		binary.LittleEndian.PutUint64(p.b[at:], w)
	}
	p.head()
	p.b = p.b[:len(p.b)-rnd.Intn(2)*rnd.Intn(int(c)-511)]
	return p
}

// P0.3: over any bytes behind a head each call ends, and does not panic; what is told is what the plain way tells.
func TestAnyBytes(t *testing.T) {
	t.Parallel()
	rnd := rand.New(rand.NewSource(177))
	told := map[api.Errno]int{}
	for range 1500 {
		p := anyBytes(t, rnd)
		s := p.laid()
		q := read(p.b)
		x := open(t, s, false)
		unchanged(t, s, func() {
			for range 60 {
				k := rnd.Int63n(q.many()*20) - 2
				entered(t, x, q, k)
				_, no := x.Entry(k)
				told[no]++
				place := rnd.Int63n(25 * q.c)
				n, no := x.Count(place)
				if should, good := q.count(place / q.c); no == api.OK && (n != should || !good) {
					t.Fatal(place, n, should, good)
				}
			}
			alled(t, x, q)
		})
		unchanged(t, s, func() {
			if y, no := Open(s, name, true); no == api.OK || y != nil {
				t.Fatal("opened", no)
			}
		})
	}
	if told[api.OK] < 1000 || told[api.ErrBroken] < 1000 || told[api.ErrRange] < 10 {
		t.Error(told)
	}
}

// odd is some number about all that matters.
func odd(rnd *rand.Rand, q *plain) int64 {
	list := []int64{0, 1, -1, 2, 7, 8, 63, 64, 127, 511, 512, 513, q.c, q.c * 2, int64(len(q.b)), int64(len(q.b)) - q.c, q.h.L1, q.h.Counts, q.h.SnapsAt, math.MaxInt64, math.MinInt64, 1 << 40, rnd.Int63(), rnd.Int63n(64), rnd.Int63n(64) * q.c}
	return list[rnd.Intn(len(list))]
}

// P0.3: any calls of an image that is open for writing, also over its own tables: each ends, and none panics.
func TestAnyCalls(t *testing.T) {
	t.Parallel()
	rnd := rand.New(rand.NewSource(178))
	told := map[api.Errno]int{}
	for range 300 {
		p := someImage(t, rnd)
		s, x := p.opened()
		for range 30 {
			q := &plain{whole(t, s), p.h, p.c}
			if len(q.b) > 1<<19 {
				break
			}
			if no := anyCall(rnd, q, x); no == api.OK || rnd.Intn(2) == 0 {
				told[no]++
			}
		}
		told[x.Close()]++
	}
	if told[api.OK] < 1000 || told[api.ErrBroken] < 100 || told[api.ErrRange] < 100 || told[api.ErrArg] < 100 {
		t.Error(told)
	}
}

// anyCall makes a call with whatever it takes.
func anyCall(rnd *rand.Rand, q *plain, x *Image) (no api.Errno) {
	a, b := odd(rnd, q), odd(rnd, q)
	switch rnd.Intn(12) {
	case 0:
		_, no = x.Entry(a)
	case 1:
		for range x.All() {
			no = api.OK
		}
	case 2, 3:
		no = x.Put(a, api.Entry{Kind: api.EntryKind(rnd.Intn(5)), Place: b, Len: rnd.Intn(2) * rnd.Intn(600)})
	case 4:
		no = x.Put(rnd.Int63n(100), api.Entry{Kind: api.EntryData, Place: rnd.Int63n(20) * q.c})
	case 5:
		_, no = x.Count(a)
	case 6:
		_, no = x.Read(a, int(b))
	case 7:
		w := make([]byte, rnd.Intn(3)*8)
		rnd.Read(w[:min(len(w), rnd.Intn(9))])
		no = x.Write(a, w)
	case 8:
		_, no = x.Alloc(int(a % 100))
	case 9:
		no = x.Free(a, int(b%9))
	case 10:
		no = x.Share(a)
	default:
		no = x.Hold(a, int(b), int64(rnd.Intn(4)-1))
	}
	return no
}
