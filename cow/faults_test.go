package cow

import (
	"bytes"
	"fmt"
	"testing"

	"palimpsest/api"
	"palimpsest/stops"
	"palimpsest/store"
)

// acted is a chain of two for calls that write: clusters of all kinds, some of which a snapshot holds, too, with one table of entries of the active tree's own, and a second one that a snapshot shares, or that is missing.
func acted(t testing.TB, order int, missing bool) *stack {
	t.Helper()
	k := stacked(t, level{10, order, 259}, level{11, 4, 257})
	k.did(1, writes(0, fresh(100, 24)...), writes(250, fresh(130, 7)...))
	k.did(0, writes(8, 8, 9), packs(1, 10, 10, 11))
	if !missing {
		k.did(0, writes(256, 13, 14, 15))
	}
	snapped(t, k.top().Image())
	k.did(0, zeroes(2, 2), writes(4, 4, 5), packs(1, 6, 6, 7), packs(1, 14, 6, 7))
	k.did(0, flushes())
	k.did(1, flushes())
	return k.again()
}

// deeds are acts of all sorts for such a chain.
func deeds() []act {
	list := []act{flushes()}
	for from := int64(0); from < 12; from += 2 {
		list = append(list, writes(from, 51), writes(from+1, 52), writes(from, 53, 54), zeroes(from, 1), zeroes(from, 2))
		list = append(list, packs(1, from, 55, 55), packs(1, from, wild, 56), packs(2, from, wild, wild+1))
		list = append(list, forgets(from/2), settles(from/2))
	}
	return append(list,
		writes(0, fresh(60, 12)...), writes(3, fresh(60, 6)...), writes(253, fresh(60, 6)...), writes(255, 61, 62), writes(258, 63),
		zeroes(0, 12), zeroes(1, 10), zeroes(253, 6), zeroes(255, 3), zeroes(258, 1), zeroes(257, 1),
		packs(1, 0, fresh(60, 12)...), packs(1, 4, wild, wild+1, 7, 7, wild+2, wild+3, 8, 8), packs(1, 252, fresh(60, 7)...), packs(2, 258, 64),
		forgets(128), forgets(129), settles(127), settles(128), settles(129),
	)
}

// may tells what is wrong of a disk's content, each sector of which must be one of those.
func may(d *Disk, from int64, asked [][]int) string {
	b, no := d.Read(from*512, len(asked)*512)
	if no != api.OK {
		return fmt.Sprint("read ", no)
	}
sectors:
	for i, list := range asked {
		have := b[i*512:][:512]
		for _, x := range list {
			if bytes.Equal(have, sector(x)) {
				continue sectors
			}
		}
		return fmt.Sprint("sector ", from+int64(i), " ", have[:4], " ", list)
	}
	return ""
}

// oneOf are the sectors of some plain disks.
func oneOf(list ...*plain) [][]int {
	asked := make([][]int, list[0].size)
	for _, p := range list {
		for s := range asked {
			x, _, _ := p.tells(int64(s))
			asked[s] = append(asked[s], x)
		}
	}
	return asked
}

// crashes goes over all that a crash may leave of a store; too much of it would not be gone through in time, and is to be told, not passed over.
func crashes(t testing.TB, s *store.Store, each func(n int, left *store.Store)) {
	t.Helper()
	if s.Pending() > 12 {
		t.Fatal("too many ways", s.Pending())
	}
	for n, left := range stops.Images(s) {
		each(n, left)
	}
}

// left tells of what a crash left that nothing but leaks is found, and that the sectors are some of those.
func left(t testing.TB, s *store.Store, asked [][]int, said ...any) {
	t.Helper()
	leaky(t, s, "a", said...)
	leaky(t, s, "b", said...)
	k := &stack{t: t, s: s}
	k.open(false, 2)
	for _, from := range []int64{0, 250} {
		if wrong := may(k.top(), from, asked[from:min(from+20, 259)]); wrong != "" {
			t.Fatal(wrong, said)
		}
	}
}

// P20.6, P20.7: a step that fails at each place of each call: its error; each sector is as it was, or as asked, all others as they were, and the image is dead; check finds nothing but leaks then, nor in whatever a crash leaves, and of each sector likewise.
func TestFaultAtEachPlace(t *testing.T) {
	for _, c := range []struct {
		order   int
		missing bool
		fates   []api.Fate
	}{{4, false, fails()}, {4, true, fails()[:1]}, {1, false, fails()[1:2]}} {
		base := acted(t, c.order, c.missing)
		for n, fate := range c.fates {
			t.Run(fmt.Sprint(c.order, c.missing, n), func(t *testing.T) {
				t.Parallel()
				base := &stack{t: t, s: base.s, plains: base.plains}
				some := 0
				for _, a := range deeds() {
					some += base.failed(a, fate)
				}
				if some < 300 {
					t.Error("steps", some)
				}
			})
		}
	}
}

// P20.2 to P20.5: the same calls, where no step fails.
func TestNoFault(t *testing.T) {
	for _, missing := range []bool{false, true} {
		base := acted(t, 4, missing)
		for _, a := range deeds() {
			k := base.copied()
			k.do(0, a)
			k.same(a.said)
		}
	}
}

// failed lets each step of an act fail, and tells how many there are.
func (k *stack) failed(a act, fate api.Fate) int {
	t := k.t
	t.Helper()
	for n := 0; ; n++ {
		k := k.copied()
		now := k.plains[0].copies()[0]
		a.plainly(now)
		feed(t, k.s, n, fate)
		no := a.on(k.top())
		if unfed(k.s) {
			want(t, no, api.OK, a.said)
			return n
		}
		said := fmt.Sprint(a.said, ", step ", n, ", fate ", fate)
		want(t, no, erring(fate), said)
		if _, dead, _ := k.top().Image().State(); !dead {
			t.Fatal("it lives", said)
		}
		asked := oneOf(k.plains[0], now)
		for _, from := range []int64{0, 250} {
			if wrong := may(k.top(), from, asked[from:min(from+20, 259)]); wrong != "" {
				t.Fatal(wrong, said)
			}
		}
		leaky(t, k.s, "a", said)
		want(t, k.top().Write(0, nil), api.ErrDead, said)
		crashes(t, k.s, func(way int, s *store.Store) { left(t, s, asked, said, "crash", way) })
	}
}

// P20.6: what is answered beside a step that failed of a disk below is what is asked of the one above: it is not dead, and goes on.
func TestOthersLive(t *testing.T) {
	k := stacked(t, level{10, 4, 8}, level{10, 4, 8})
	k.did(1, writes(0, fresh(1, 8)...), flushes())
	feed(t, k.s, 0, api.Fate{Kind: api.FateFail})
	want(t, k.disks[1].Write(0, sector(77)), api.ErrDisk)
	want(t, k.disks[1].Write(0, sector(77)), api.ErrDead)
	k.same()
	k.did(0, writes(1, 5, 6), settles(2), packs(1, 6, 7, 7), flushes())
	k.same()
	feed(t, k.s, 0, api.Fate{Kind: api.FateFull})
	want(t, k.top().Forget(0), api.ErrFull)
	want(t, k.top().Forget(0), api.ErrDead)
	k.same()
}
