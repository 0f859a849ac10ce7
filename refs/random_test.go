package refs

import (
	"encoding/binary"
	"fmt"
	"maps"
	"math"
	"math/rand"
	"slices"
	"testing"

	"palimpsest/api"
	"palimpsest/head"
	"palimpsest/stops"
	"palimpsest/store"
)

// someImage is an image of few blocks: some of them missing, some elsewhere than where they would be made, few of them where none can lie, with counts of all sorts. It is seldom right.
func someImage(t testing.TB, rnd *rand.Rand, bits int) *picture {
	t.Helper()
	order, long := max(6-rnd.Intn(4)*rnd.Intn(4), 0), 1+rnd.Intn(2)
	p := drawn(t, bits, order, 1+rnd.Int63n(3), long, 12+rnd.Int63n(8))
	clusters := int64(len(p.b)) / p.c
	at := p.h.Counts/p.c + int64(long)
	for i := range int64(6) {
		switch rnd.Intn(8) {
		case 0, 1, 2, 3:
			p.block(i, at)
			at++
		case 4:
			if rnd.Intn(3) == 0 {
				p.lead(i, []uint64{uint64(clusters * p.c), 7, uint64(p.c) + 8, 1 << 63, uint64(p.c) * 1000}[rnd.Intn(5)])
			}
		}
	}
	w := reckon(p.h, p.b)
	for range 40 {
		k := rnd.Int63n(6 * w.per)
		if place, no := w.block(k); place != 0 && no == 0 {
			w.set(k, rnd.Uint64()>>rnd.Intn(64))
		}
	}
	for k := range int64(6) {
		if place, no := w.block(k * w.per); place != 0 && no == 0 && rnd.Intn(3) == 0 {
			w.set(k*w.per, w.most()-uint64(rnd.Intn(2)))
		}
	}
	p.b = p.b[:len(p.b)-rnd.Intn(2)*rnd.Intn(int(p.c))]
	return p
}

// someClusters are clusters of an image, most of them of its first blocks (of as many as leave the file small), few of them beyond the room.
func someClusters(rnd *rand.Rand, w *plain, n int) []int64 {
	var list []int64
	blocks := min(max(1<<19/(w.per*w.c), 1), 8)
	for range n {
		switch rnd.Intn(40) {
		case 0:
			list = append(list, []int64{-1, w.room(), w.room() + 5, -1 << 63, 1<<63 - 1}[rnd.Intn(5)])
		case 1, 2, 3, 4, 5, 6:
			list = append(list, rnd.Int63n(blocks)*w.per)
		case 7, 8, 9, 10, 11, 12, 13, 14:
			if len(list) > 0 {
				list = append(list, list[rnd.Intn(len(list))])
			}
		case 15, 16, 17, 18, 19, 20:
			list = append(list, rnd.Int63n(blocks*w.per))
		default:
			list = append(list, rnd.Int63n(40))
		}
	}
	return list
}

// P16.1 to P16.5: longer scripts over right images: each answer and all bytes against the plain way, faults now and then, nothing but leaks found at any time, nor in some of what a crash may leave; in the end all that was taken is given back.
func TestLongScripts(t *testing.T) {
	for seed := range 40 {
		t.Run(fmt.Sprint(seed), func(t *testing.T) {
			t.Parallel()
			rnd := rand.New(rand.NewSource(int64(seed)))
			p := peopled(t, []int{6, 5, 4, 3, 6, 2, 6}[seed%7])
			s, r := p.opened(t)
			mine := map[int64]int{}
			for range 40 {
				scripted(t, rnd, s, p, r, mine)
				leaky(t, s)
				ways, _ := stops.Some(s, rnd.Uint64(), 4)
				for _, way := range ways {
					left, no := s.Crash(way...)
					want(t, no, api.OK)
					leaky(t, left)
				}
				left := lasting(t, s)
				for k, n := range mine {
					for _, k := range run(k, n) {
						if x, no := open(t, left).Count(k); x < 1 || no != api.OK {
							t.Fatal("what was taken does not last", k, x, no)
						}
					}
				}
			}
			for k, n := range mine {
				want(t, r.Free(k*p.c, n), api.OK)
			}
			leaky(t, s)
		})
	}
}

// scripted makes some call; mine are the runs that were taken.
func scripted(t testing.TB, rnd *rand.Rand, s *store.Store, p *picture, r *Refs, mine map[int64]int) {
	t.Helper()
	w := reckon(p.h, whole(t, s))
	switch rnd.Intn(8) {
	case 0:
		size := rnd.Int63n(100 * 512)
		want(t, r.Grow(size), api.OK)
		w.grow(size)
		sameBytes(t, s, w.b, "Grow", size)
	case 1:
		adds(t, s, p, r, 1, someClusters(rnd, w, rnd.Intn(5))...)
	case 2:
		// No block tells of the room's last cluster, so it cannot be lowered.
		adds(t, s, p, r, -1, w.room()-1)
	case 3:
		for _, k := range slices.Sorted(maps.Keys(mine)) {
			n := mine[k]
			want(t, adds(t, s, p, r, 1, run(k, n)...), api.OK)
			want(t, r.Free(k*p.c, n), api.OK)
			sameBytes(t, s, w.b, "raised and lowered", k, n)
			break
		}
	case 4:
		// A fault: what it leaves is told elsewhere; here all goes on behind it.
		want(t, s.Feed(append(make([]api.Fate, rnd.Intn(6)), api.Fate{Kind: api.FateFail, Keep: rnd.Intn(2)})...), api.OK)
		for {
			if k, no := r.Alloc(1 + rnd.Intn(3)); no != api.OK {
				if k != 0 || no != api.ErrDisk {
					t.Fatal(k, no)
				}
				break
			}
		}
		if _, left := s.Steps(); left > 0 {
			t.Fatal("a fate is left")
		}
	default:
		n := 1 + rnd.Intn(7)*rnd.Intn(7)
		if first, no := takes(t, s, p, r, n); no == api.OK {
			for _, k := range run(first, n) {
				for other, long := range mine {
					if k >= other && k < other+int64(long) {
						t.Fatal("taken twice", k)
					}
				}
			}
			mine[first] = n
		}
	}
}

// anyBytes is a file that begins with a head, and any bytes behind it.
func anyBytes(t testing.TB, rnd *rand.Rand) *picture {
	t.Helper()
	bits := 9 + rnd.Intn(2)
	p := drawn(t, bits, rnd.Intn(7), 1+rnd.Int63n(22), []int{1, 1, 2, 3, 1000, 1 << 16}[rnd.Intn(6)], 1+rnd.Int63n(20))
	fill := rnd.Intn(5)
	for at := 512; at+8 <= len(p.b); at += 8 {
		x := uint64(0)
		switch {
		case fill == 0:
			x = rnd.Uint64()
		case fill == 1:
			x = 1<<64 - 1
		case rnd.Intn(3) == 0:
			x = uint64(rnd.Int63n(22) * p.c)
		case rnd.Intn(20) == 0 && fill == 2:
			x = rnd.Uint64() >> rnd.Intn(64)
		}
		binary.LittleEndian.PutUint64(p.b[at:], x)
	}
	p.b = p.b[:len(p.b)-rnd.Intn(2)*rnd.Intn(int(p.c)-511)]
	return p
}

// blockPlaces are the clusters, by their places, of the counts' table and of all blocks that it leads to, as far as they are there.
func (p *plain) blockPlaces() map[int64]struct{} {
	places := map[int64]struct{}{}
	for at := p.table; at < p.end && at+8 <= int64(len(p.b)); at += 8 {
		places[at/p.c*p.c] = struct{}{}
		places[int64(binary.LittleEndian.Uint64(p.b[at:]))] = struct{}{}
	}
	return places
}

// P0.3: over any bytes behind a head each call ends, and does not panic; bytes that belong to neither blocks nor the counts' table stay as they were, and what is refused changes nothing.
func TestAnyBytes(t *testing.T) {
	t.Parallel()
	rnd := rand.New(rand.NewSource(166))
	told := map[api.Errno]int{}
	for range 2000 {
		p := anyBytes(t, rnd)
		s, r := p.opened(t)
		for range 6 {
			before := reckon(p.h, whole(t, s))
			was := s.Copy()
			no := anyCall(t, rnd, before, r)
			told[no]++
			if no != api.OK && !s.Same(was) {
				t.Fatal("it has changed", no)
			}
			after := reckon(p.h, whole(t, s))
			if len(after.b) > 1<<18 {
				break
			}
			before.grow(int64(len(after.b)))
			may := before.blockPlaces()
			maps.Copy(may, after.blockPlaces())
			for at := int64(0); at < int64(len(after.b)); at += p.c {
				end := min(at+p.c, int64(len(after.b)))
				if _, is := may[at]; !is && !slices.Equal(before.b[at:end], after.b[at:end]) {
					t.Fatal("the cluster has changed at", at, no)
				}
			}
			if h, no := head.Read(after.b); no != api.OK || h != p.h {
				t.Fatal("the head has changed")
			}
		}
	}
	if told[api.OK] < 1000 || told[api.ErrBroken] < 1000 || told[api.ErrFull] < 10 || told[api.ErrRange] < 100 || told[api.ErrArg] < 10 {
		t.Error(told)
	}
}

// anyCall makes a call with whatever it takes.
func anyCall(t testing.TB, rnd *rand.Rand, w *plain, r *Refs) api.Errno {
	t.Helper()
	odd := []int64{0, 1, -1, 511, 512, 513, w.room(), w.room() - 1, math.MaxInt64, math.MinInt64, 1 << 40, rnd.Int63(), rnd.Int63n(64) * w.c}
	x := odd[rnd.Intn(len(odd))]
	switch rnd.Intn(8) {
	case 0:
		c, no := r.Count(x)
		if should, why := w.count(x); c != should || no != why {
			t.Fatalf("Count(%d): %d, %v; want %d, %v", x, c, no, should, why)
		}
		return no
	case 1:
		if x > 1<<18/w.c && x < api.MaxFile/w.c {
			x = -7 // the file would become great
		}
		list := append(someClusters(rnd, w, rnd.Intn(4)), x)
		_, should := w.added(1, list...)
		no := r.Add(1, list...)
		want(t, no, should)
		return no
	case 2, 3:
		list := someClusters(rnd, w, 1+rnd.Intn(2))
		by := int64(rnd.Intn(4) - 1)
		_, should := w.added(by, list...)
		no := r.Add(by, list...)
		if by != 1 && by != -1 {
			should = api.ErrArg
		}
		want(t, no, should)
		return no
	case 4, 5:
		place, no := r.Alloc([]int{1, 1, 2, 5, 70, 1 << 20, int(x % (1 << 21))}[rnd.Intn(7)])
		if no != api.OK && place != 0 {
			t.Fatal(place, no)
		}
		return no
	case 6:
		return r.Free(x, 1+rnd.Intn(3))
	}
	return r.Grow(x % (1 << 16))
}
