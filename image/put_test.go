package image

import (
	"fmt"
	"math"
	"math/rand"
	"slices"
	"testing"

	"palimpsest/api"
	"palimpsest/entry"
	"palimpsest/store"
)

// wrongPut tells what is wrong of an image behind a Put that went well.
func wrongPut(before, now *plain, k int64, e api.Entry) string {
	old, _ := before.entry(before.active(), k)
	lead := before.h.L1 + k/before.many()*8
	table, made := int64(before.word(lead)), int64(now.word(lead))
	less, more := map[int64]uint64{}, map[int64]uint64{}
	if old.Place > 0 {
		less[old.Place/before.c]++
	}
	may := []int64{made}
	count, _ := before.count(table / before.c)
	switch {
	case e == old && e.Place == 0:
		may = nil
		fallthrough
	case table != 0 && count == 1:
		if made != table {
			return "the table is another one"
		}
	default:
		if free, _ := before.count(made / now.c); free != 0 || made == table {
			return "the table is none of its own"
		}
		more[made/now.c]++
		if table != 0 {
			less[table/before.c]++
		}
		may = append(may, lead/now.c*now.c)
	}
	slices.Sort(may)
	if have := changed(before, now); len(have) > len(may) || slices.ContainsFunc(have, func(at int64) bool { return !slices.Contains(may, at) }) {
		return fmt.Sprint("clusters that have changed ", have, ", want ", may)
	}
	for n, r := range before.roots() {
		should := before.entries(r)
		if n == 0 {
			should[k] = e
		}
		if have := now.entries(r); !slices.Equal(have, should) {
			return fmt.Sprint("entries of the tree ", n)
		}
	}
	return counted(before, now, more, less)
}

// puts puts an entry, and holds all that is there then against the plain way.
func puts(t testing.TB, s *store.Store, x *Image, k int64, e api.Entry) {
	t.Helper()
	before, taken := read(whole(t, s)), steps(s)
	want(t, x.Put(k, e), api.OK)
	now := read(whole(t, s))
	if wrong := wrongPut(before, now, k, e); wrong != "" {
		t.Fatal(wrong, "; put ", k, e)
	}
	// Where nothing changes no step is taken, so what others wrote may wait still.
	if s.Pending() != 0 && steps(s) > taken || now.h != before.h {
		t.Fatal("not all lasts", s.Pending())
	}
	if have, no := x.Entry(k); have != e || no != api.OK {
		t.Fatal(have, no)
	}
}

// kinds are entries of each kind, whose clusters are counted for this: one of each kind of holder more.
func kinds(t testing.TB, x *Image) []api.Entry {
	t.Helper()
	at, no := x.Alloc(1)
	want(t, no, api.OK)
	packed := (&picture{t: t, c: 512, b: nil}).packed(7)[0]
	// What a packed cluster has stands at its begin.
	p := &picture{t: t, c: 512}
	p.packed(7)
	place, no := x.Save(p.b)
	want(t, no, api.OK)
	packed.Place = place
	return []api.Entry{{}, {Kind: api.EntryZero}, {Kind: api.EntryData, Place: at}, packed}
}

// P17.4: each kind of entry over each kind of entry, where the L2 table is the active tree's alone, other trees' too, and missing.
func TestPutEachOverEach(t *testing.T) {
	for over := range 4 {
		for kind := range 4 {
			for _, where := range []string{"alone", "shared", "missing"} {
				if where == "missing" && over > 0 {
					continue
				}
				p := drawn(t, 9, 4, 512*70, 40)
				old := []api.Entry{{}, {Kind: api.EntryZero}, p.data('a'), p.packed('b', 'c')[0]}[over]
				table := p.table(map[int]api.Entry{3: old, 4: p.data('d'), 5: old, 6: {Kind: api.EntryZero}})
				switch where {
				case "alone":
					p.root(p.tree(table, p.table(nil)))
				case "shared":
					p.root(p.tree(table, table))
					p.snap(p.tree(0, table))
					p.snap(p.tree(table))
				case "missing":
					p.root(p.tree(0, table))
				}
				s, x := p.sealed().opened()
				puts(t, s, x, 3, kinds(t, x)[kind])
				leaky(t, s, over, kind, where)
				want(t, x.Close(), api.OK)
			}
		}
	}
}

// P17.4: an entry that is put once more over itself releases what it was: who put it had counted it anew.
func TestPutTheSame(t *testing.T) {
	p := small(t, 9, 4)
	s, x := p.opened()
	for k, e := range x.All() {
		if e.Place > 0 {
			want(t, x.Share(e.Place), api.OK)
		}
		puts(t, s, x, k, e)
		puts(t, s, x, 20, api.Entry{Kind: api.EntryZero})
		puts(t, s, x, 20, api.Entry{Kind: api.EntryZero})
		puts(t, s, x, 21, api.Entry{})
		leaky(t, s)
	}
	// Of nothing no table is made, nor copied.
	q := drawn(t, 9, 4, 512*70, 40)
	table := q.table(nil)
	q.root(q.tree(table, 0))
	q.snap(q.tree(table))
	s, x = q.sealed().opened()
	unchanged(t, s, func() {
		for _, k := range []int64{0, 63, 64, 127} {
			want(t, x.Put(k, api.Entry{}), api.OK)
		}
	})
}

// P17.4: at the edges: the first guest cluster and the last one that the L1 table has an entry for, be it beyond the size; all else is out of range.
func TestPutAtTheEdges(t *testing.T) {
	for _, long := range []int{1, 2, 3} {
		p := drawn(t, 9, 4, 512, 40)
		p.root(p.tree(make([]int64, long)...))
		s, x := p.sealed().opened()
		last := int64(long)*64 - 1
		for _, k := range []int64{0, last, 63, 1} {
			puts(t, s, x, k, api.Entry{Kind: api.EntryZero})
		}
		unchanged(t, s, func() {
			for _, k := range []int64{-1, last + 1, -64, math.MinInt64, math.MaxInt64, 1 << 40} {
				want(t, x.Put(k, api.Entry{}), api.ErrRange)
				want(t, x.Put(k, api.Entry{Kind: api.EntryZero}), api.ErrRange)
			}
		})
		clean(t, s)
	}
}

// P17.4: an entry that may not be is refused ahead of where it is to be put; one that leads beyond the file is not there.
func TestPutOfWhatMayNotBe(t *testing.T) {
	p := small(t, 9, 4)
	s, x := p.opened()
	end := int64(len(p.b))
	unchanged(t, s, func() {
		for _, e := range []api.Entry{
			{Kind: 4}, {Kind: -1}, {Kind: 9, Place: 512}, {Place: 512}, {Len: 1}, {Kind: api.EntryZero, Place: 512}, {Kind: api.EntryZero, Len: 1},
			{Kind: api.EntryData}, {Kind: api.EntryData, Place: 513}, {Kind: api.EntryData, Place: -512}, {Kind: api.EntryData, Place: 1024, Len: 1}, {Kind: api.EntryData, Place: api.MaxFile + 512}, {Kind: api.EntryData, Place: math.MinInt64},
			{Kind: api.EntryPacked, Place: 1024}, {Kind: api.EntryPacked, Place: 1024, Len: 512}, {Kind: api.EntryPacked, Place: 1030, Len: 507}, {Kind: api.EntryPacked, Place: 100, Len: 5}, {Kind: api.EntryPacked, Place: 1024, Len: -1},
		} {
			for _, k := range []int64{0, -1, 128} {
				want(t, x.Put(k, e), api.ErrArg)
			}
		}
		for _, e := range []api.Entry{{Kind: api.EntryData, Place: end}, {Kind: api.EntryData, Place: api.MaxFile}, {Kind: api.EntryPacked, Place: end + 3, Len: 5}} {
			for _, k := range []int64{0, -1, 128} {
				want(t, x.Put(k, e), api.ErrRange)
			}
		}
	})
	puts(t, s, x, 0, api.Entry{Kind: api.EntryData, Place: end - 512})
}

// P17.4: where what is there cannot be read, or could not be released, nothing is put.
func TestPutOverWhatIsBroken(t *testing.T) {
	zero := api.Entry{Kind: api.EntryZero}
	// Bent behind the back of an image that is open, as it would not be opened so.
	bend := func(should api.Errno, how func(p *plain)) {
		t.Helper()
		s, x := small(t, 9, 4).opened()
		b := whole(t, s)
		how(read(b))
		want(t, s.Write(name, 0, b), api.OK)
		want(t, s.Flush(name), api.OK)
		unchanged(t, s, func() { want(t, x.Put(0, zero), should) })
	}
	p := small(t, 9, 4)
	for _, w := range words(p) {
		(&picture{b: p.b}).word(512, w)
		if _, good := (&plain{p.b, p.h, p.c}).says(512); !good {
			bend(api.ErrBroken, func(q *plain) { (&picture{b: q.b}).word(int64(q.word(q.h.L1)), w) })
		}
	}
	for _, w := range leads(p) {
		if w != 0 && (w%512 != 0 || w < 0 || w >= int64(len(p.b))) {
			bend(api.ErrBroken, func(q *plain) { (&picture{b: q.b}).word(q.h.L1, w) })
		}
	}
	bend(api.ErrBroken, func(q *plain) {
		e, _ := q.entry(q.active(), 0)
		q.set(e.Place/512, 0)
	})
	// A table that is led to by two, and the data in it, of which the count is lost.
	shared := drawn(t, 9, 4, 512*70, 40)
	e := shared.data('a')
	table := shared.table(map[int]api.Entry{0: e})
	shared.root(shared.tree(table, 0))
	shared.snap(shared.tree(table))
	s, x := shared.sealed().opened()
	b := whole(t, s)
	read(b).set(e.Place/512, 0)
	want(t, s.Write(name, 0, b), api.OK)
	unchanged(t, s, func() { want(t, x.Put(0, zero), api.ErrBroken) })
}

// full is an image that has no room for one cluster more.
func full(t testing.TB, p *picture) (*store.Store, *Image) {
	t.Helper()
	s, x := p.opened()
	for n := 1 << 20; n > 0; {
		if _, no := x.Alloc(n); no != api.OK {
			want(t, no, api.ErrFull)
			n /= 2
		}
	}
	return s, x
}

// P17.4: where there is no room for a table, nothing is put; where none is needed, it goes.
func TestPutWhereThereIsNoRoom(t *testing.T) {
	zero := api.Entry{Kind: api.EntryZero}
	for _, missing := range []bool{false, true} {
		p := drawn(t, 9, 6, 512*70, 60)
		table, other := p.table(map[int]api.Entry{5: zero, 6: p.data('a')}), p.table(nil)
		if missing {
			p.root(p.tree(0, other))
		} else {
			p.root(p.tree(table, other))
			p.snap(p.tree(table))
		}
		s, x := full(t, p.sealed())
		unchanged(t, s, func() {
			want(t, x.Put(0, zero), api.ErrFull)
			want(t, x.Put(0, api.Entry{}), api.OK)
			if !missing {
				want(t, x.Put(6, api.Entry{}), api.ErrFull)
				want(t, x.Put(5, zero), api.OK)
			}
		})
		state(t, x, true, false, false)
		puts(t, s, x, 64, zero)
		leaky(t, s)
		want(t, x.Close(), api.OK)
	}
}

// P17.4: what was written of a cluster ahead of a Put that leads to it lasts no later than the entry does.
func TestPutFlushesAhead(t *testing.T) {
	for _, where := range []int64{0, 64, 130} {
		p := drawn(t, 9, 4, 512*140, 40)
		table := p.table(map[int]api.Entry{1: p.data('a')})
		p.root(p.tree(p.table(nil), table, 0))
		p.snap(p.tree(table))
		base := p.sealed().laid()
		for k := 0; ; k++ {
			s := base.Copy()
			x := open(t, s, true)
			at, no := x.Alloc(1)
			want(t, no, api.OK)
			want(t, x.Write(at, []byte("what is to be read")), api.OK)
			feed(t, s, k, api.Fate{Kind: api.FateFail, Keep: 1})
			x.Put(where, api.Entry{Kind: api.EntryData, Place: at})
			crashes(t, s, func(n int, left *store.Store) {
				q := read(whole(t, left))
				if e, _ := q.entry(q.active(), where); e.Place == at && string(q.b[at:at+18]) != "what is to be read" {
					t.Fatal("it leads to what does not last", where, k, n)
				}
			})
			if unfed(s) {
				break
			}
		}
	}
}

// P17.4: over many small images, many entries, each against the plain way; what is put is counted by Alloc, Save or Share.
func TestPutOverImages(t *testing.T) {
	for seed := range 60 {
		t.Run(fmt.Sprint(seed), func(t *testing.T) {
			t.Parallel()
			rnd := rand.New(rand.NewSource(int64(seed)))
			p := someImage(t, rnd)
			s, x := p.opened()
			for range 40 {
				q := read(whole(t, s))
				k := rnd.Int63n(max(int64(p.h.L1Len)*q.many(), 1))
				if rnd.Intn(2) == 0 {
					k %= 3
				}
				if p.h.L1Len == 0 {
					want(t, x.Put(k, api.Entry{}), api.ErrRange)
					continue
				}
				e, no := someKind(t, rnd, x, q)
				if no != api.OK {
					want(t, no, api.ErrFull)
					continue
				}
				puts(t, s, x, k, e)
				leaky(t, s)
			}
			b := whole(t, s)
			want(t, x.Close(), api.OK)
			sameBytes(t, whole(t, s), headless(t, b))
		})
	}
}

// someKind is an entry of some kind that may be put: it is counted.
func someKind(t testing.TB, rnd *rand.Rand, x *Image, q *plain) (api.Entry, api.Errno) {
	t.Helper()
	switch rnd.Intn(6) {
	case 0:
		return api.Entry{}, api.OK
	case 1:
		return api.Entry{Kind: api.EntryZero}, api.OK
	case 2:
		at, no := x.Alloc(1)
		return api.Entry{Kind: api.EntryData, Place: at}, no
	case 3:
		p := &picture{t: t, c: q.c}
		e := p.packed(byte(rnd.Intn(256)))[0]
		at, no := x.Save(p.b)
		e.Place = at
		return e, no
	}
	all := q.all()
	if len(all) == 0 {
		return api.Entry{}, api.OK
	}
	e := all[rnd.Intn(len(all))].e
	if e.Place == 0 {
		return e, api.OK
	}
	return e, x.Share(e.Place + rnd.Int63n(q.c-e.Place%q.c))
}

// TestPlainWords: entries that are put stand in the file as layer 9 has them.
func TestPlainWords(t *testing.T) {
	s, x := small(t, 9, 4).opened()
	for i, e := range kinds(t, x) {
		want(t, x.Put(int64(30+i), e), api.OK)
		q := read(whole(t, s))
		table := int64(q.word(q.h.L1))
		if w, no := entry.Word(e, 9); q.word(table+8*int64(30+i)) != w || no != api.OK {
			t.Error(e, w, no)
		}
	}
}
