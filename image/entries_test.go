package image

import (
	"fmt"
	"math"
	"math/rand"
	"slices"
	"testing"

	"palimpsest/api"
	"palimpsest/entry"
	"palimpsest/store"
)

// someEntry is an entry of some kind that leads to a new cluster, to one that was led to before, or nowhere.
func someEntry(rnd *rand.Rand, p *picture, had *[]api.Entry) api.Entry {
	var e api.Entry
	switch rnd.Intn(9) {
	case 0, 1, 2:
		e = p.data(byte(rnd.Intn(256)))
	case 3:
		list := p.packed(byte(rnd.Intn(256)), byte(rnd.Intn(256)), byte(rnd.Intn(256)))
		*had = append(*had, list...)
		e = list[0]
	case 4, 5:
		if len(*had) > 0 {
			return (*had)[rnd.Intn(len(*had))]
		}
	case 6:
		return api.Entry{Kind: api.EntryZero}
	}
	if e.Place > 0 {
		*had = append(*had, e)
	}
	return e
}

// someTable is an L2 table of few entries, or of none.
func someTable(rnd *rand.Rand, p *picture, had *[]api.Entry) int64 {
	entries := map[int]api.Entry{}
	for range rnd.Intn(5) {
		i := rnd.Intn(int(p.c / 8))
		if rnd.Intn(2) == 0 {
			i = rnd.Intn(3)
		}
		entries[i] = someEntry(rnd, p, had)
	}
	return p.table(entries)
}

// someImage is a small image of a few trees that share tables and data, all counts being right but for a few leaks.
func someImage(t testing.TB, rnd *rand.Rand) *picture {
	t.Helper()
	bits, order := 9+rnd.Intn(2), 3+rnd.Intn(4)
	c := int64(1) << bits
	p := drawn(t, bits, order, rnd.Int63n(3*c*c/8/512+1)*512, 63)
	var had []api.Entry
	var made []int64
	tree := func(long int) root {
		places := make([]int64, long)
		for i := range places {
			switch rnd.Intn(4) {
			case 0:
			case 1:
				if len(made) > 0 {
					places[i] = made[rnd.Intn(len(made))]
					continue
				}
				fallthrough
			default:
				places[i] = someTable(rnd, p, &had)
				made = append(made, places[i])
			}
		}
		return p.tree(places...)
	}
	p.root(tree(p.h.L1Len + rnd.Intn(2)))
	for range rnd.Intn(3) {
		p.snap(tree(rnd.Intn(4)))
	}
	var leaks []int64
	for range rnd.Intn(3) {
		leaks = append(leaks, rnd.Int63n(int64(len(p.b))/c))
	}
	return p.sealed(leaks...)
}

// entered holds Entry of a guest cluster against the plain way.
func entered(t testing.TB, x *Image, p *plain, k int64, said ...any) {
	t.Helper()
	should, why := p.entry(p.active(), k)
	if e, no := x.Entry(k); e != should || no != why {
		t.Fatalf("Entry(%d): %v, %v; want %v, %v; %v", k, e, no, should, why, said)
	}
}

// alled holds All against the plain way.
func alled(t testing.TB, x *Image, p *plain, said ...any) {
	t.Helper()
	if have, should := gathered(x), p.all(); !slices.Equal(have, should) {
		t.Fatal("All", have, "want", should, said)
	}
}

// gathered is all that All tells.
func gathered(x *Image) []pair {
	var list []pair
	for k, e := range x.All() {
		list = append(list, pair{k, e})
	}
	return list
}

// P17.3: over many small images, each entry that the L1 table has, one past it, below 0, and far off, and All: against the plain way.
func TestEntriesOfImages(t *testing.T) {
	rnd := rand.New(rand.NewSource(173))
	for range 200 {
		p := someImage(t, rnd)
		s := p.laid()
		leaky(t, s)
		q := read(p.b)
		last := int64(p.h.L1Len) * q.many()
		for _, write := range []bool{false, true} {
			x := open(t, s, write)
			unchanged(t, s, func() {
				for k := int64(-2); k < last+2; k++ {
					entered(t, x, q, k)
				}
				for _, k := range []int64{math.MinInt64, -q.many(), math.MaxInt64, 1 << 40, last + q.many()} {
					entered(t, x, q, k)
				}
				alled(t, x, q)
			})
		}
	}
}

// P17.3: an entry beyond the size is told by Entry, and not by All; one beyond the L1 table is out of range.
func TestEntriesBeyondTheSize(t *testing.T) {
	p := drawn(t, 9, 4, 512*3, 20)
	zero := api.Entry{Kind: api.EntryZero}
	p.root(p.tree(p.table(map[int]api.Entry{0: zero, 2: zero, 3: zero, 63: zero}), p.table(map[int]api.Entry{0: zero})))
	s := p.sealed().laid()
	x := open(t, s, false)
	for k, should := range map[int64]api.Entry{0: zero, 1: {}, 2: zero, 3: zero, 4: {}, 63: zero, 64: zero, 65: {}, 127: {}} {
		if e, no := x.Entry(k); e != should || no != api.OK {
			t.Error(k, e, no)
		}
	}
	for _, k := range []int64{-1, 128} {
		if e, no := x.Entry(k); e != (api.Entry{}) || no != api.ErrRange {
			t.Error(k, e, no)
		}
	}
	if have := gathered(x); !slices.Equal(have, []pair{{0, zero}, {2, zero}}) {
		t.Error(have)
	}
}

// P17.3: an image without a guest has no entries.
func TestNoGuest(t *testing.T) {
	x := open(t, created(t, api.Make{Bits: 9, Order: 4}), true)
	for _, k := range []int64{-1, 0, 1} {
		if e, no := x.Entry(k); e != (api.Entry{}) || no != api.ErrRange {
			t.Error(k, e, no)
		}
		want(t, x.Put(k, api.Entry{}), api.ErrRange)
	}
	if len(gathered(x)) > 0 {
		t.Error("entries")
	}
}

// words are words that are no entries', or lead to what does not lie within the file, and few that are entries.
func words(p *picture) []int64 {
	end := int64(len(p.b))
	last := end - p.c
	packed := func(place, long int64) int64 { return place<<16 | long<<2 | 3 }
	return []int64{
		4, 5, 6, 7, 3, 2, -1, math.MinInt64, math.MaxInt64, p.c, p.c + 1, p.c + 3,
		end + 2, end/2 + 2, last + 2, last + 8 + 2, end + p.c + 2, api.MaxFile + 2, api.MaxFile*2 + 2,
		packed(last, 5), packed(last+p.c-5, 5), packed(last+p.c-4, 5), packed(end, 5), packed(end-1, 1), packed(end+9*p.c, 5), packed(5, 5), packed(last, 0), packed(last, p.c), packed(last, p.c-1), packed(last, 16383),
		0, 1,
	}
}

// leads are places of L2 tables, most of which do not lie within the file.
func leads(p *picture) []int64 {
	end := int64(len(p.b))
	return []int64{-1, 1, 2, 8, p.c / 2, p.c + 8, end, end - p.c, end - p.c + 8, end - 8, end + p.c, math.MinInt64, math.MaxInt64, -p.c, 1 << 62, 1 << 40, api.MaxFile, 0}
}

// bentHolds holds all entries that can be read of a bent image against the plain way, and All.
func bentHolds(t testing.TB, p *picture, said ...any) {
	t.Helper()
	x, q := open(t, p.laid(), false), read(p.b)
	for k := int64(-1); k <= int64(p.h.L1Len)*q.many(); k++ {
		entered(t, x, q, k, said...)
	}
	alled(t, x, q, said...)
}

// P17.3: of words that are no entries, and of places that do not lie within the file: ErrBroken, and All goes up to the first of these.
func TestEntriesThatCannotBeRead(t *testing.T) {
	for _, bits := range []int{9, 10} {
		p := small(t, bits, 4)
		was := slices.Clone(p.b)
		tables := []int64{int64(read(p.b).word(p.h.L1)), int64(read(p.b).word(p.h.L1 + 8))}
		bend := func(at, x int64) {
			copy(p.b, was)
			p.word(at, x)
			bentHolds(t, p, bits, at, x)
		}
		for _, x := range words(p) {
			for _, table := range tables {
				for _, i := range []int64{0, 1, 5, p.c/8 - 1} {
					bend(table+8*i, x)
				}
			}
		}
		for _, x := range leads(p) {
			bend(p.h.L1, x)
			bend(p.h.L1+8, x)
		}
	}
}

// P17.3: of an L1 table that does not lie within the file, or not all of it: ErrBroken.
func TestNoL1Table(t *testing.T) {
	for _, l1 := range []int64{512, 1024, 512 * 12, 512 * 13, 512 * 14, 1 << 20, api.MaxFile} {
		for _, long := range []int{2, 3, 64, 65, 128, 129, 1 << 20} {
			p := small(t, 9, 4)
			p.h.L1, p.h.L1Len = l1, long
			p.head()
			x, q := open(t, p.laid(), false), read(p.b)
			for _, k := range []int64{0, 1, 64, 127, 128, 64 * 128, 1<<26 - 1, 1 << 26, -1} {
				entered(t, x, q, k, l1, long)
			}
			alled(t, x, q, l1, long)
		}
	}
}

// P17.3: a file that ends in the midst of a table, or of what an entry leads to.
func TestFileThatEnds(t *testing.T) {
	p := small(t, 9, 4)
	all := p.b
	for long := 512; long <= len(all); long += 8 {
		p.b = all[:long]
		x, q := open(t, p.laid(), false), read(p.b)
		for _, k := range []int64{0, 1, 2, 3, 63, 64, 69, 71, 72, 128} {
			entered(t, x, q, k, long)
		}
		alled(t, x, q, long)
	}
}

// P17.3: All tells what was there when it was called; it may be left at each place, and gone through twice.
func TestAllIsAsItWas(t *testing.T) {
	p := small(t, 9, 4)
	s, x := p.opened()
	should := read(p.b).all()
	if len(should) != 6 {
		t.Fatal(should)
	}
	all := x.All()
	for k := range should {
		want(t, x.Put(should[k].k, api.Entry{}), api.OK)
		want(t, x.Put(int64(10+k), api.Entry{Kind: api.EntryZero}), api.OK)
		for long := range should {
			var have []pair
			for k, e := range all {
				have = append(have, pair{k, e})
				if len(have) > long {
					break
				}
			}
			if !slices.Equal(have, should[:long+1]) {
				t.Fatal(have)
			}
		}
	}
	alled(t, x, read(whole(t, s)))
	// A Put while it is gone through is not told either.
	var have []pair
	for k, e := range x.All() {
		want(t, x.Put(k+1, api.Entry{}), api.OK)
		have = append(have, pair{k, e})
	}
	if len(have) != 6 || len(gathered(x)) != 1 {
		t.Fatal(have, gathered(x))
	}
	all = x.All()
	want(t, x.Close(), api.OK)
	n := 0
	for range all {
		n++
	}
	if n != 1 || len(gathered(x)) != 0 {
		t.Fatal("closed", n)
	}
}

// P17.3: iterators of none and of one that is closed tell nothing, and are there.
func TestAllOfNone(t *testing.T) {
	closed := open(t, small(t, 9, 4).laid(), false)
	want(t, closed.Close(), api.OK)
	for i, x := range []*Image{nil, {}, closed} {
		if x.All() == nil || len(gathered(x)) > 0 {
			t.Error(i)
		}
	}
	s := small(t, 9, 4).laid()
	x := open(t, s, false)
	want(t, s.Remove(name), api.OK)
	if x.All() == nil || len(gathered(x)) > 0 {
		t.Error("of no file")
	}
}

// P17.3: of a file that is gone the store's error is told, ahead of what is out of range.
func TestFileIsGone(t *testing.T) {
	s := small(t, 9, 4).laid()
	x := open(t, s, false)
	want(t, s.Remove(name), api.OK)
	for _, k := range []int64{-1, 0, 1 << 40} {
		if e, no := x.Entry(k); e != (api.Entry{}) || no != api.ErrNone {
			t.Error(k, e, no)
		}
	}
	want(t, x.Close(), api.OK)
}

// TestPlainEntries holds the plain way's entries against layer 9's.
func TestPlainEntries(t *testing.T) {
	p := small(t, 9, 4)
	rnd := rand.New(rand.NewSource(9))
	list := words(p)
	for range 2000 {
		list = append(list, rnd.Int63()>>rnd.Intn(63), int64(rnd.Intn(1<<16))<<rnd.Intn(30))
	}
	at := p.take(512)
	for _, w := range list {
		p.word(at, w)
		q := &plain{p.b, p.h, p.c}
		e, good := q.says(at)
		other, no := entry.Of(uint64(w), 9)
		if good && (no != api.OK || e != other) || !good && no == api.OK && q.within(uint64(other.Place/512*512), 512) {
			t.Fatal(fmt.Sprintf("%x", w), e, good, other, no)
		}
	}
}

// P17.3: what is told of images hangs on the file alone: another one that is open for reading tells the same meanwhile.
func TestTwoOpen(t *testing.T) {
	s, x := small(t, 9, 4).opened()
	y := open(t, s, false)
	for k := range int64(10) {
		want(t, x.Put(k, api.Entry{Kind: api.EntryKind(k % 2)}), api.OK)
		for k := range int64(70) {
			e, _ := x.Entry(k)
			if other, no := y.Entry(k); other != e || no != api.OK {
				t.Fatal(k, other, e)
			}
		}
	}
	var none *store.Store
	unopened(t, none, name, false, api.ErrNil)
}
