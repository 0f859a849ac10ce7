package image

import (
	"bytes"
	"fmt"
	"testing"

	"palimpsest/api"
	"palimpsest/store"
)

// tale is a script under way: its store and image, and what must be there whatever a crash leaves.
type tale struct {
	t     testing.TB
	s     *store.Store
	x     *Image
	asked map[int64][]api.Entry // what entries may be, by their guest clusters: as they were put last, or as a Put that failed asked
	least map[int64]uint64      // what counts are at least, by their clusters
	saved map[int64][]byte      // what was saved, by its place
}

// act is a call of a script that takes nothing from what holds a cluster but by Put.
type act struct {
	said string
	do   func(x *tale) api.Errno
}

// alloc takes a run, and notes it.
func (x *tale) alloc(n int) (int64, api.Errno) {
	at, no := x.x.Alloc(n)
	if no == api.OK {
		x.note(at, n)
	}
	return at, no
}

// note notes a run that is taken.
func (x *tale) note(at int64, n int) {
	for k := range int64(n) {
		x.least[at/512+k]++
	}
}

// put puts an entry that is counted, and notes it. What it may have released is counted no more, also where it failed: it is not told how far it came.
func (x *tale) put(k int64, e api.Entry) api.Errno {
	before := read(whole(x.t, x.s))
	lead := before.h.L1 + k/64*8
	old, table := x.asked[k][0], int64(before.word(lead))
	no := x.x.Put(k, e)
	x.asked[k] = append(x.asked[k], e)
	if no == api.OK {
		x.asked[k] = []api.Entry{e}
	}
	made := int64(read(whole(x.t, x.s)).word(lead))
	if no == api.OK && made != table {
		x.least[made/512]++
	}
	if table != 0 && (no != api.OK || made != table) {
		x.least[table/512]--
	}
	if old.Place > 0 {
		x.least[old.Place/512]--
	}
	return no
}

// acts are calls of all sorts.
func acts() []act {
	return []act{
		{"put new data", func(x *tale) api.Errno {
			at, no := x.alloc(1)
			if no != api.OK {
				return no
			}
			return x.put(0, api.Entry{Kind: api.EntryData, Place: at})
		}},
		{"put zero where a table is shared", func(x *tale) api.Errno { return x.put(64, api.Entry{Kind: api.EntryZero}) }},
		{"put where a table is missing", func(x *tale) api.Errno { return x.put(129, api.Entry{Kind: api.EntryZero}) }},
		{"put nothing", func(x *tale) api.Errno { return x.put(1, api.Entry{}) }},
		{"share and put", func(x *tale) api.Errno {
			e := x.asked[0][0]
			if e.Place > 0 {
				if no := x.x.Share(e.Place); no != api.OK {
					return no
				}
				x.note(e.Place, 1)
			}
			return x.put(65, e)
		}},
		{"save", func(x *tale) api.Errno {
			b := bytes.Repeat([]byte("saved"), 110)
			at, no := x.x.Save(b)
			if no == api.OK {
				x.note(at, 2)
				x.saved[at] = b
			}
			return no
		}},
		{"hold", func(x *tale) api.Errno {
			h, _ := x.x.Head()
			q := read(whole(x.t, x.s))
			no := x.x.Hold(h.L1, h.L1Len, 1)
			if no == api.OK {
				held, _ := q.tree(q.active())
				for k, n := range held {
					x.least[k] += n
				}
			}
			return no
		}},
		{"take", func(x *tale) api.Errno { _, no := x.alloc(2); return no }},
	}
}

// sound tells of whatever a crash leaves that nothing but leaks is found, and that what was answered is there.
func (x *tale) sound(said ...any) {
	x.t.Helper()
	leaky(x.t, x.s, said...)
	crashes(x.t, x.s, func(n int, left *store.Store) {
		said := append(said, "crash", n)
		leaky(x.t, left, said...)
		q := read(whole(x.t, left))
		y := open(x.t, left, false)
		for k, may := range x.asked {
			e, no := y.Entry(k)
			if no != api.OK || e != may[0] && e != may[len(may)-1] {
				x.t.Fatal("entry ", k, e, no, may, said)
			}
		}
		for k, least := range x.least {
			if have, _ := q.count(k); have < least {
				x.t.Fatal("count ", k, have, least, said)
			}
		}
		for at, b := range x.saved {
			sameBytes(x.t, q.b[at:at+int64(len(b))], b, said...)
		}
	})
}

// crashing is an image for scripts: a table of its own, one that a snapshot shares, none.
func crashing(t testing.TB, order int) *picture {
	t.Helper()
	p := drawn(t, 9, order, 512*64*3, 12)
	e := p.data('a')
	shared := p.table(map[int]api.Entry{0: e, 1: {Kind: api.EntryZero}})
	p.root(p.tree(p.table(map[int]api.Entry{0: e, 1: p.data('b')}), shared, 0))
	p.snap(p.tree(shared))
	return p.sealed()
}

// play goes through a script, with its fates; asked is what a crash leaves behind the call that failed, and behind each call, if none failed.
func play(t testing.TB, p *picture, base *store.Store, script []act, fates ...api.Fate) (left bool) {
	t.Helper()
	s := base.Copy()
	x := &tale{t, s, open(t, s, true), map[int64][]api.Entry{}, read(p.b).holders(), map[int64][]byte{}}
	q := read(p.b)
	for k := range int64(p.h.L1Len) * 64 {
		e, _ := q.entry(q.active(), k)
		x.asked[k] = []api.Entry{e}
	}
	want(t, s.Feed(fates...), api.OK)
	var said []any
	for _, a := range script {
		no := a.do(x)
		said = append(said, a.said, no)
		if no != api.OK {
			x.sound(append(said, fates)...)
			return unfed(s)
		}
		if len(fates) == 0 {
			x.sound(said...)
		}
	}
	said = append(said, "close", x.x.Close())
	x.sound(append(said, fates)...)
	return unfed(s)
}

// P17.8: scripts of few calls, with a step that fails at each place, and a crash of each way: nothing but leaks is found then, and each entry is as it was, or as it was put.
func TestScriptsAndCrashes(t *testing.T) {
	for _, c := range []struct{ order, long, few int }{{6, 2, 8}, {4, 2, 8}, {2, 3, 5}} {
		for first := range c.few {
			t.Run(fmt.Sprint(c, first), func(t *testing.T) {
				t.Parallel()
				p := crashing(t, c.order)
				base := p.laid()
				all := acts()[:c.few]
				number := 1
				for range c.long - 1 {
					number *= c.few
				}
				for i := range number {
					script := []act{all[first]}
					for n := i; len(script) < c.long; n /= c.few {
						script = append(script, all[n%c.few])
					}
					tried(t, p, base, script)
				}
			})
		}
	}
}

// tried goes through a script, and once more for each step that may fail.
func tried(t testing.TB, p *picture, base *store.Store, script []act) {
	t.Helper()
	play(t, p, base, script)
	for k, left := 0, false; !left; k++ {
		for _, fate := range []api.Fate{{Kind: api.FateFail}, {Kind: api.FateFull, Keep: 1}} {
			left = play(t, p, base, script, append(make([]api.Fate, k), fate)...)
		}
	}
}

// P17.8: behind a crash of each way an image that is made right is opened again, and what is taken then is nothing that was put.
func TestWhatIsTakenBehindACrash(t *testing.T) {
	p := crashing(t, 6)
	base := p.laid()
	for k := range 20 {
		s := base.Copy()
		x := open(t, s, true)
		feed(t, s, k, api.Fate{Kind: api.FateFail, Keep: 1})
		at, no := x.Alloc(1)
		if no == api.OK {
			no = x.Put(64, api.Entry{Kind: api.EntryData, Place: at})
		}
		if no == api.OK {
			x.Put(0, api.Entry{})
		}
		crashes(t, s, func(n int, left *store.Store) {
			// It is dirty; taken for clean it must go on all the same.
			b := headless(t, whole(t, left))
			y := open(t, filed(t, b), true)
			held := read(b).holders()
			for range 5 {
				place, no := y.Alloc(1)
				want(t, no, api.OK)
				if held[place/512] > 0 {
					t.Fatal("taken twice", fmt.Sprint(k, n), place)
				}
			}
		})
	}
}
