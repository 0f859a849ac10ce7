package cow

import (
	"bytes"
	"fmt"
	"math/rand"
	"slices"
	"testing"

	"palimpsest/api"
	"palimpsest/stops"
)

// anyLevels are one to four images of any sizes, clusters and counts.
func anyLevels(r *rand.Rand) []level {
	list := make([]level, 1+r.Intn(4))
	for i := range list {
		list[i] = level{9 + r.Intn(5), r.Intn(7), int64(r.Intn(140))}
	}
	return list
}

// anyAct is an act that goes for a plain disk.
func anyAct(r *rand.Rand, p *plain) act {
	if p.size == 0 {
		return flushes()
	}
	from := r.Int63n(p.size)
	n := min(1+r.Int63n(1+r.Int63n(40)), p.size-from)
	list := make([]int, n)
	for i := range list {
		list[i] = r.Intn(6)
		if r.Intn(4) == 0 {
			list[i] = wild + r.Intn(100)
		}
	}
	k := from / p.per
	switch r.Intn(12) {
	case 0, 1, 2:
		return writes(from, list...)
	case 3, 4:
		return zeroes(from, n)
	case 5, 6, 7:
		end := min((k+1+r.Int63n(4))*p.per, p.size)
		for int64(len(list)) < end-k*p.per {
			list = append(list, list[0])
		}
		return packs(r.Intn(3), k*p.per, list[:end-k*p.per]...)
	case 8, 9:
		return forgets(k)
	case 10:
		return settles(k)
	}
	return flushes()
}

// P20.1 to P20.5, P20.7: scripts of calls to all disks of a chain, held against rows of sectors; now and then a snapshot holds all that there is.
func TestScripts(t *testing.T) {
	for seed := range int64(8) {
		t.Run(fmt.Sprint(seed), func(t *testing.T) {
			t.Parallel()
			r := rand.New(rand.NewSource(seed))
			for range 8 {
				k := stacked(t, anyLevels(r)...)
				said := []any{}
				snap := make([]bool, len(k.disks))
				for n := range 60 {
					i := r.Intn(len(k.disks))
					a := anyAct(r, k.plains[i])
					said = append(said, i, a.said)
					k.do(i, a)
					if h, _ := k.disks[i].Image().Head(); h.Order > 1 && h.L1Len > 0 && !snap[i] && r.Intn(30) == 0 {
						snap[i] = true
						snapped(t, k.disks[i].Image())
					}
					if n%10 == 9 {
						k.same(said...)
					}
					k.glimpsed(r, said...)
				}
			}
		})
	}
}

// glimpsed looks at a range of a disk.
func (k *stack) glimpsed(r *rand.Rand, said ...any) {
	k.t.Helper()
	i := r.Intn(len(k.disks))
	p := k.plains[i]
	from := r.Int63n(p.size + 1)
	n := r.Int63n(p.size - from + 1)
	sameBytes(k.t, reads(k.t, k.disks[i], from, n), p.bytes(from, n), i, from, n, said)
	if have, no := extentsOf(k.disks[i], from*512, n*512); no != api.OK || !slices.Equal(have, p.extents(from, n)) {
		k.t.Fatal(i, from, n, no, have, said)
	}
}

// P20.6, P20.7: scripts in which a step fails, and a crash leaves anything: it is made right, opened again, and goes on from what was left.
func TestScriptsWithCrashes(t *testing.T) {
	for seed := range int64(8) {
		t.Run(fmt.Sprint(seed), func(t *testing.T) {
			t.Parallel()
			r := rand.New(rand.NewSource(seed))
			for range 6 {
				k := stacked(t, level{9 + r.Intn(4), 2 + r.Intn(5), 1 + int64(r.Intn(60))}, level{9 + r.Intn(4), 4, int64(r.Intn(60))})
				var said []any
				for range 12 {
					said = append(said, k.crashed(r, said)...)
				}
			}
		})
	}
}

// crashed goes through a few acts up to one that fails, and goes on with what a crash leaves.
func (k *stack) crashed(r *rand.Rand, before []any) (said []any) {
	k.t.Helper()
	for _, d := range k.disks {
		want(k.t, d.Flush(), api.OK)
	}
	a := k.began()
	feed(k.t, k.s, r.Intn(60), api.Fate{Kind: api.FateKind(1 + r.Intn(2)), Keep: r.Intn(9)})
	for unfed(k.s) {
		i := r.Intn(2)
		act := anyAct(r, k.plains[i])
		said = append(said, i, act.said)
		if no := a.ask(deed{disk: i, act: act}); (no == api.OK) != unfed(k.s) {
			k.t.Fatal(no, before, said)
		}
	}
	for i, d := range k.disks {
		if wrong := may(d, 0, a.asked[i]); wrong != "" {
			k.t.Fatal("disk ", i, ": ", wrong, before, said)
		}
	}
	ways, no := stops.Some(k.s, uint64(len(before)), 4)
	want(k.t, no, api.OK)
	s, no := k.s.Crash(ways[r.Intn(4)]...)
	want(k.t, no, api.OK)
	k.s = s
	for i := range k.disks {
		leaky(k.t, s, called(i), before, said)
		right(k.t, s, called(i))
	}
	k.open(true, 2)
	for i := range k.disks {
		if wrong := may(k.disks[i], 0, a.asked[i]); wrong != "" {
			k.t.Fatal("disk ", i, ": ", wrong, before, said)
		}
	}
	k.adopt(a.asked)
	k.same(before, said)
	return said
}

// adopt lets the plain disks be what the disks are, whose sectors are some of those that were asked.
func (k *stack) adopt(asked [][][]int) {
	k.t.Helper()
	for i := len(k.disks) - 1; i >= 0; i-- {
		d, p := k.disks[i], k.plains[i]
		b := reads(k.t, d, 0, p.size)
		for c := range p.rows {
			e := entryOf(k.t, d, int64(c))
			p.rows[c] = row{kind: e.Kind}
			if e.Kind == api.EntryData || e.Kind == api.EntryPacked {
				p.rows[c].list = make([]int, p.per)
				first := int64(c) * p.per
				for s := first; s < min(first+p.per, p.size); s++ {
					p.rows[c].list[s-first] = among(b[s*512:][:512], asked[i][s])
				}
			}
		}
	}
}

// among tells which one of some sectors has these bytes.
func among(b []byte, list []int) int {
	return list[slices.IndexFunc(list, func(x int) bool { return bytes.Equal(b, sector(x)) })]
}
