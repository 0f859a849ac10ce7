package image

import (
	"fmt"
	"maps"
	"math"
	"math/rand"
	"slices"
	"testing"

	"palimpsest/api"
	"palimpsest/entry"
	"palimpsest/store"
	"palimpsest/tables"
)

// holds holds a tree, or no more, and holds all that is there then against the plain way.
func holds(t testing.TB, s *store.Store, x *Image, r root, by int64) {
	t.Helper()
	before := read(whole(t, s))
	held, good := before.tree(r)
	if !good {
		t.Fatal("no tree", r)
	}
	want(t, x.Hold(r.l1, r.long, by), api.OK)
	now := read(whole(t, s))
	more, less := held, map[int64]uint64(nil)
	if by < 0 {
		more, less = less, more
	}
	if wrong := counted(before, now, more, less); wrong != "" || s.Pending() != 0 || len(changed(before, now)) > 0 {
		t.Fatal(wrong, s.Pending(), changed(before, now))
	}
}

// P17.6: over many small images, each tree is held once more, and twice, and no more again: the counts of all its clusters go with it, as often as it holds them.
func TestHold(t *testing.T) {
	rnd := rand.New(rand.NewSource(176))
	for range 100 {
		p := someImage(t, rnd)
		s, x := p.opened()
		b := whole(t, s)
		for _, by := range []int64{1, 1, -1, -1} {
			for _, r := range p.roots() {
				holds(t, s, x, r, by)
				leaky(t, s)
			}
		}
		sameBytes(t, whole(t, s), b)
		want(t, x.Close(), api.OK)
	}
}

// P17.6: a tree that holds a cluster several times: by tables that it leads to twice, by entries, by packed bytes.
func TestHoldOfWhatIsHeldOften(t *testing.T) {
	p := drawn(t, 9, 6, 512*64*5, 60)
	e, packs := p.data('a'), p.packed('b', 'c', 'd')
	often := p.table(map[int]api.Entry{0: e, 1: packs[0], 2: packs[1], 3: e, 9: packs[2], 63: packs[0]})
	other := p.table(map[int]api.Entry{7: e})
	p.root(p.tree(often, other, 0, often, often))
	s, x := p.sealed().opened()
	for _, should := range []uint64{2, 3, 4} {
		holds(t, s, x, p.active(), 1)
		counts(t, x, e.Place, 7*should)
		counts(t, x, packs[1].Place, 12*should)
		counts(t, x, often, 3*should)
		counts(t, x, other, should)
		counts(t, x, p.h.L1, 1)
		counts(t, x, p.h.L1+8, 1)
	}
	for range 3 {
		holds(t, s, x, p.active(), -1)
	}
	clean(t, s)
}

// P17.6: a tree that nobody leads to as yet: one that was saved.
func TestHoldOfASavedTree(t *testing.T) {
	p := small(t, 9, 4)
	s, x := p.opened()
	table := int64(read(p.b).word(p.h.L1))
	l1 := make([]byte, 8*70)
	for i := range 70 {
		copy(l1[8*i:], word(table*int64(i%2)))
	}
	r := root{saves(t, s, x, l1), 70}
	for _, long := range []int{0, 1, 2, 3, 64, 65, 70} {
		holds(t, s, x, root{r.l1, long}, 1)
		holds(t, s, x, root{r.l1, long}, -1)
	}
	leaky(t, s)
}

// P17.6: what may not be held is refused, and nothing changes: by neither 1 nor -1, tables and places that do not lie within the file, words that are no entries.
func TestHoldRefuses(t *testing.T) {
	p := small(t, 9, 4)
	s, x := p.opened()
	end := int64(len(p.b))
	unchanged(t, s, func() {
		for _, by := range []int64{0, 2, -2, math.MaxInt64, math.MinInt64} {
			want(t, x.Hold(p.h.L1, p.h.L1Len, by), api.ErrArg)
			want(t, x.Hold(-1, 1, by), api.ErrArg)
		}
		for _, by := range []int64{1, -1} {
			want(t, x.Hold(p.h.L1, -1, by), api.ErrArg)
			want(t, x.Hold(p.h.L1, math.MinInt, by), api.ErrArg)
			for _, l1 := range append(far(), 0, 1, 511, p.h.L1+8, p.h.L1+256, end, end+512) {
				want(t, x.Hold(l1, 1, by), api.ErrBroken)
			}
			for _, long := range []int{int(end-p.h.L1)/8 + 1, math.MaxInt, 1 << 61, 1 << 60, 1 << 20} {
				want(t, x.Hold(p.h.L1, long, by), api.ErrBroken)
			}
		}
	})
	want(t, x.Hold(0, 0, 1), api.OK)
	want(t, x.Hold(p.h.L1, 0, -1), api.OK)
	// So many entries that their bytes, reckoned, go round to none; the file ends behind those that are there.
	last := saves(t, s, x, make([]byte, 16))
	for last+512 < int64(len(whole(t, s))) {
		last = saves(t, s, x, make([]byte, 16))
	}
	unchanged(t, s, func() {
		for _, long := range []int{1 << 61, 1 << 62, 65} {
			want(t, x.Hold(last, long, 1), api.ErrBroken)
		}
	})
	// Trees that cannot be read, saved beside the right one.
	table := read(p.b).word(p.h.L1)
	saved := func(words ...int64) int64 {
		var b []byte
		for _, w := range words {
			b = append(b, word(w)...)
		}
		return saves(t, s, x, b)
	}
	good := int64(table)
	for _, w := range leads(p) {
		at := saved(0, good, w)
		if w%512 == 0 && w >= 0 && w < int64(len(whole(t, s))) {
			continue
		}
		holds(t, s, x, root{at, 2}, 1)
		holds(t, s, x, root{at, 2}, -1)
		unchanged(t, s, func() { want(t, x.Hold(at, 3, 1), api.ErrBroken) })
	}
	for _, w := range words(p) {
		at := saved(good, saved(0, 1, w))
		q := read(whole(t, s))
		(&picture{b: q.b}).word(512, w)
		if _, is := q.says(512); is {
			continue
		}
		unchanged(t, s, func() { want(t, x.Hold(at, 2, 1), api.ErrBroken) })
	}
	state(t, x, true, false, false)
	leaky(t, s)
}

// P17.6: counts that would be too great, or below 0, are asked ahead of all that is written.
func TestHoldOfFullCounts(t *testing.T) {
	for order, most := range []uint64{1, 3, 15, 255, 65535, 1<<32 - 1, math.MaxUint64} {
		for _, where := range []string{"table", "data", "packed"} {
			p := drawn(t, 9, order, 512*64*3, 60)
			e, packs := p.data('a'), p.packed('b')
			table := p.table(map[int]api.Entry{0: e, 9: packs[0]})
			p.root(p.tree(0, table, 0))
			s, x := p.sealed().opened()
			q := read(whole(t, s))
			q.set(map[string]int64{"table": table, "data": e.Place, "packed": packs[0].Place}[where]/512, most)
			want(t, s.Write(name, 0, q.b), api.OK)
			unchanged(t, s, func() { want(t, x.Hold(p.h.L1, 3, 1), api.ErrFull) })
			state(t, x, true, false, false)
			leaky(t, s)
			holds(t, s, x, p.active(), -1)
			unchanged(t, s, func() { want(t, x.Hold(p.h.L1, 3, -1), api.ErrBroken) })
			holds(t, s, x, p.active(), 1)
			leaky(t, s)
		}
	}
	// Held more often than a count can say, though there is none as yet.
	p := drawn(t, 9, 1, 512*64*4, 60)
	e := p.data('a')
	table := p.table(map[int]api.Entry{0: e})
	p.root(p.tree(table, 0, 0, 0))
	s, x := p.sealed().opened()
	four := p.tree(table, table, table)
	at := saves(t, s, x, p.b[four.l1:][:24])
	unchanged(t, s, func() {
		want(t, x.Hold(at, 3, 1), api.ErrFull)
		want(t, x.Hold(at, 3, -1), api.ErrBroken)
		want(t, x.Hold(at, 2, -1), api.ErrBroken)
	})
	holds(t, s, x, root{at, 2}, 1)
}

// P17.6: a tree that leads to few tables very often is gone through in time, and counted as often.
func TestHoldOfVeryMany(t *testing.T) {
	p := drawn(t, 9, 6, 512, 4000)
	e := p.data('a')
	entries := map[int]api.Entry{}
	for i := range 64 {
		entries[i] = e
	}
	table := p.table(entries)
	const long = 5000
	p.root(p.tree(slices.Repeat([]int64{table}, long)...))
	s, x := p.sealed().opened()
	clean(t, s)
	holds(t, s, x, p.active(), 1)
	counts(t, x, e.Place, 2*64*long)
	counts(t, x, table, 2*long)
	holds(t, s, x, p.active(), -1)
	clean(t, s)
	// Of so many no part is counted either, where not all of them can be.
	for count, by := range map[uint64]int64{64*long - 1: -1, math.MaxUint64 - 64*long + 1: 1} {
		q := read(whole(t, s))
		q.set(e.Place/512, count)
		want(t, s.Write(name, 0, q.b), api.OK)
		unchanged(t, s, func() {
			want(t, x.Hold(p.h.L1, p.h.L1Len, by), map[int64]api.Errno{-1: api.ErrBroken, 1: api.ErrFull}[by])
		})
	}
}

// P17.6: what lies within the file, and not in the room of the counts, cannot be held, nor was it ever.
func TestHoldBeyondTheRoom(t *testing.T) {
	p := drawn(t, 9, 6, 512, 60)
	const room = 64 * 64
	p.b = append(p.b, make([]byte, (room+2)*512-len(p.b))...)
	at := int64(room) * 512
	s, x := p.sealed().opened()
	table := make([]byte, 512)
	want(t, entry.Put(table, 0, api.Entry{Kind: api.EntryData, Place: at}, 9), api.OK)
	l1 := saves(t, s, x, word(saves(t, s, x, table)))
	unchanged(t, s, func() {
		want(t, x.Hold(l1, 1, 1), api.ErrBroken)
		want(t, x.Hold(l1, 1, -1), api.ErrBroken)
		want(t, x.Share(at), api.ErrRange)
	})
	counts(t, x, at-1, 0)
	uncounted(t, x, at, api.ErrRange)
	state(t, x, true, false, false)
}

// P17.6: another head, and that lasts: all of it, whatever its flags; FlagDirty stays set.
func TestSwitch(t *testing.T) {
	p := small(t, 9, 4)
	s, x := p.opened()
	was := whole(t, s)
	for _, change := range []func(h *api.Head){
		func(h *api.Head) {},
		func(h *api.Head) { h.Flags = 0 },
		func(h *api.Head) { h.Flags = api.FlagDirty },
		func(h *api.Head) { h.Size = 0 },
		func(h *api.Head) { h.Size = 512 * 128 },
		func(h *api.Head) { h.Backing = "another" },
		func(h *api.Head) { h.Backing = "" },
		func(h *api.Head) { h.Snaps, h.SnapsAt, h.SnapsLen = 0, 0, 0 },
		func(h *api.Head) { h.Bitmaps, h.BitmapsAt, h.BitmapsLen = 64, 512, 65536 },
		func(h *api.Head) { h.L1, h.L1Len = p.snaps[0].L1, 1<<20 },
		func(h *api.Head) { h.Size, h.L1, h.L1Len = 0, 0, 0 },
		func(h *api.Head) { *h = p.h },
	} {
		h, no := x.Head()
		want(t, no, api.OK)
		change(&h)
		asked := h
		want(t, x.Switch(h), api.OK)
		asked.Flags = api.FlagDirty
		if have, no := x.Head(); have != asked || no != api.OK {
			t.Fatal(have, asked)
		}
		if read(whole(t, lasting(t, s))).h != asked || s.Pending() != 0 {
			t.Fatal("it does not last")
		}
		sameBytes(t, whole(t, s)[512:], was[512:])
	}
	want(t, x.Close(), api.OK)
	sameBytes(t, whole(t, s), p.b)
}

// P17.6: behind a Switch entries, All and Put are those of the new tree, and all else goes on.
func TestSwitchToAnotherTree(t *testing.T) {
	p := small(t, 9, 4)
	s, x := p.opened()
	other := p.snaps[0]
	h := p.h
	// The snapshot's tree becomes the active one, and the active one the snapshot's.
	list, no := tables.Snaps(9, api.Snap{Name: "a", L1: h.L1, L1Len: h.L1Len, Size: h.Size})
	want(t, no, api.OK)
	h.SnapsAt, h.SnapsLen = saves(t, s, x, list), len(list)
	h.L1, h.L1Len = other.L1, other.L1Len
	want(t, x.Switch(h), api.OK)
	q := read(whole(t, s))
	for k := range int64(129) {
		entered(t, x, q, k)
	}
	alled(t, x, q)
	puts(t, s, x, 64, api.Entry{})
	puts(t, s, x, 0, api.Entry{Kind: api.EntryZero})
	leaky(t, s)
	want(t, x.Free(p.h.SnapsAt, 1), api.OK)
	want(t, x.Close(), api.OK)
	leaky(t, s)
}

// P17.6: what a head leads to, and was written and not flushed, lasts no later than the head.
func TestSwitchFlushesAhead(t *testing.T) {
	base := small(t, 9, 4).laid()
	for k := 0; ; k++ {
		s := base.Copy()
		x := open(t, s, true)
		h, _ := x.Head()
		b, _ := x.Read(h.L1, 16)
		at, no := x.Alloc(1)
		want(t, no, api.OK)
		want(t, x.Write(at, make([]byte, 512)), api.OK)
		want(t, x.Write(at, b), api.OK)
		h.L1 = at
		feed(t, s, k, api.Fate{Kind: api.FateFail, Keep: 1})
		x.Switch(h)
		crashes(t, s, func(n int, left *store.Store) {
			if q := read(whole(t, left)); q.h.L1 == at && !slices.Equal(q.b[at:at+16], b) {
				t.Fatal("it leads to what does not last", k, n)
			}
		})
		if unfed(s) {
			break
		}
	}
}

// P17.6: a head that may not be, or that turns to other clusters or counts, is refused, and nothing changes.
func TestSwitchRefuses(t *testing.T) {
	p := small(t, 9, 4)
	s, x := p.opened()
	for i, change := range []func(h *api.Head){
		func(h *api.Head) { *h = api.Head{} },
		func(h *api.Head) { h.Bits = 8 },
		func(h *api.Head) { h.Flags = 2 },
		func(h *api.Head) { h.Size = 513 },
		func(h *api.Head) { h.Size = -512 },
		func(h *api.Head) { h.L1Len = 1 },
		func(h *api.Head) { h.L1Len = 1<<20 + 1 },
		func(h *api.Head) { h.L1 = 0 },
		func(h *api.Head) { h.L1++ },
		func(h *api.Head) { h.Snaps = 0 },
		func(h *api.Head) { h.Snaps = 65 },
		func(h *api.Head) { h.Bitmaps = 1 },
		func(h *api.Head) { h.Backing = "\x00" },
		func(h *api.Head) { h.Order = 3 },
		func(h *api.Head) { h.Order = 5 },
		func(h *api.Head) { h.Order = 7 },
		func(h *api.Head) { h.Counts += 512 },
		func(h *api.Head) { h.Counts = 0 },
		func(h *api.Head) { h.CountsLen++ },
		func(h *api.Head) { h.CountsLen = 0 },
		func(h *api.Head) { // of other clusters it may be
			h.Bits, h.Counts, h.L1, h.SnapsAt = 10, 1024, 2048, 4096
		},
	} {
		h, no := x.Head()
		want(t, no, api.OK)
		change(&h)
		unchanged(t, s, func() {
			if no := x.Switch(h); no != api.ErrArg {
				t.Error(i, no)
			}
		})
	}
	state(t, x, true, false, false)
}

// P17.6: a tree is kept as a snapshot is: held once more, its L1 table copied; what is put into the active one leaves it as it was, over many small images.
func TestTreesAreKept(t *testing.T) {
	for seed := range 30 {
		t.Run(fmt.Sprint(seed), func(t *testing.T) {
			t.Parallel()
			rnd := rand.New(rand.NewSource(int64(seed) + 1000))
			p := someImage(t, rnd)
			s, x := p.opened()
			kept := map[root][]api.Entry{}
			for range 12 {
				q := read(whole(t, s))
				r := q.active()
				if r.long == 0 {
					return
				}
				if len(kept) < 4 && rnd.Intn(2) == 0 {
					want(t, x.Hold(r.l1, r.long, 1), api.OK)
					l1, no := x.Read(r.l1, r.long*8)
					want(t, no, api.OK)
					r.l1 = saves(t, s, x, l1)
					kept[r] = q.entries(q.active())
				}
				e, no := someKind(t, rnd, x, q)
				want(t, no, api.OK)
				puts(t, s, x, rnd.Int63n(int64(r.long)*q.many()), e)
				now := read(whole(t, s))
				for r, should := range kept {
					if !slices.Equal(now.entries(r), should) {
						t.Fatal("a tree has changed", r)
					}
				}
				leaky(t, s)
			}
			for _, r := range slices.SortedFunc(maps.Keys(kept), func(a, b root) int { return int(a.l1 - b.l1) }) {
				holds(t, s, x, r, -1)
			}
			leaky(t, s)
		})
	}
}
