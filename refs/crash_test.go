package refs

import (
	"fmt"
	"slices"
	"testing"

	"palimpsest/api"
	"palimpsest/check"
	"palimpsest/stops"
	"palimpsest/store"
)

// tale is a script under way: its store, and which clusters were taken.
type tale struct {
	s     *store.Store
	r     *Refs
	taken []int64
	held  map[int64]uint64
}

// deed is a call of a script that lowers no count.
type deed struct {
	said string
	do   func(x *tale) api.Errno
}

// deeds are calls of all sorts, of an image whose blocks have so many counts.
func deeds(per int64) []deed {
	add := func(list ...int64) deed {
		return deed{fmt.Sprint("add", list), func(x *tale) api.Errno { return x.r.Add(1, list...) }}
	}
	take := func(n int64) deed {
		return deed{fmt.Sprint("take", n), func(x *tale) api.Errno {
			place, no := x.r.Alloc(int(n))
			if no == api.OK {
				x.taken = append(x.taken, run(place/x.r.cluster, int(n))...)
			}
			return no
		}}
	}
	grow := func(clusters int64) deed {
		return deed{fmt.Sprint("grow", clusters), func(x *tale) api.Errno { return x.r.Grow(clusters * x.r.cluster) }}
	}
	return []deed{take(1), add(7, 6), add(per + 1), take(per - 6), add(2*per, 7, per), take(per - 1), grow(per + 1), take(2)}
}

// crashes goes over all that a crash may leave of a store; too much of it would not be gone through in time, and is to be told, not passed over.
func crashes(t testing.TB, s *store.Store, each func(n int, left *store.Store)) {
	t.Helper()
	if s.Pending() > 10 {
		t.Fatal("too many ways", s.Pending())
	}
	for n, left := range stops.Images(s) {
		each(n, left)
	}
}

// sound tells of whatever a crash leaves that nothing but leaks is found, that holders and what was taken are counted, and that they are not taken again.
func (x *tale) sound(t testing.TB, said ...any) {
	t.Helper()
	leaky(t, x.s, said...)
	crashes(t, x.s, func(n int, left *store.Store) {
		leaky(t, left, append(said, "crash", n)...)
		r := open(t, left)
		for _, k := range x.taken {
			if c, no := r.Count(k); c < 1 || no != api.OK {
				t.Fatal("what was taken is not counted", k, c, no, said, n)
			}
		}
		for _, k := range []int{1, 3} {
			first := took(t, r, k)
			for _, k := range run(first, k) {
				if slices.Contains(x.taken, k) || x.held[k] > 0 {
					t.Fatal("taken twice", k, said, n)
				}
			}
		}
		leaky(t, left, append(said, "behind crash", n)...)
	})
}

// told goes through a script, with its fates. Asked of it is what a crash leaves behind the call that failed, and at the end; behind each call, if none failed.
func told(t testing.TB, p *picture, base *store.Store, script []deed, fates ...api.Fate) (left int) {
	t.Helper()
	s := base.Copy()
	held, no := check.Holders(p.b)
	want(t, no, api.OK)
	x := &tale{s: s, r: open(t, s), held: held}
	want(t, s.Feed(fates...), api.OK)
	var said []any
	for i, d := range script {
		no := d.do(x)
		said = append(said, d.said, no)
		if no != api.OK || len(fates) == 0 || i == len(script)-1 {
			x.sound(t, append(said, fates)...)
		}
	}
	slices.Sort(x.taken)
	if len(slices.Compact(slices.Clone(x.taken))) != len(x.taken) {
		t.Fatal("taken twice", said)
	}
	for _, k := range []int{3, 4, 5, 8} {
		if b := whole(t, s)[k*512 : k*512+512]; !slices.Equal(b, p.b[k*512:k*512+512]) {
			t.Fatal("a holder's bytes have changed", k, said)
		}
	}
	_, left = s.Steps()
	return left
}

// P16.5: scripts of few calls, with a step that fails at each place, and a crash of each way: nothing but leaks is found then, and no cluster is taken twice.
func TestScriptsAndCrashes(t *testing.T) {
	for _, c := range []struct{ order, long, few int }{{0, 2, 3}, {1, 2, 3}, {2, 2, 3}, {3, 2, 3}, {4, 2, 5}, {5, 2, 6}, {6, 2, 8}, {6, 3, 4}} {
		t.Run(fmt.Sprint(c), func(t *testing.T) {
			t.Parallel()
			p := peopled(t, c.order)
			s := p.laid(t)
			for script := range scripts(deeds(int64(4096 >> c.order))[:c.few], c.long) {
				told(t, p, s, script)
				for k := 0; ; k++ {
					left := 0
					for _, fate := range []api.Fate{{Kind: api.FateFail}, {Kind: api.FateFull, Keep: 1}} {
						left = told(t, p, s, script, append(make([]api.Fate, k), fate)...)
					}
					if left > 0 {
						break
					}
				}
			}
		})
	}
}

// scripts goes over all scripts of so many calls.
func scripts(all []deed, long int) func(func([]deed) bool) {
	return func(yield func([]deed) bool) {
		number := 1
		for range long {
			number *= len(all)
		}
		for i := range number {
			var script []deed
			for range long {
				script = append(script, all[i%len(all)])
				i /= len(all)
			}
			if !yield(script) {
				return
			}
		}
	}
}

// P16.5: a crash in the midst of a block's being made leaves it there as a whole, or not at all.
func TestBlockIsThereAsAWhole(t *testing.T) {
	for _, bits := range []int{9, 10, 11} {
		p := right(t, bits, 6, 1)
		per := p.c / 8
		p.grown(per + 2)
		for i := range p.c {
			p.b[per*p.c+i] = 0xff // what stood there is not to be taken for counts
		}
		base := p.laid(t)
		for k := 0; ; k++ {
			s := base.Copy()
			want(t, s.Feed(append(make([]api.Fate, k), api.Fate{Kind: api.FateFail})...), api.OK)
			no := open(t, s).Add(1, per+3)
			crashes(t, s, func(n int, left *store.Store) {
				r := open(t, left)
				own, _ := r.Count(per)
				added, _ := r.Count(per + 3)
				others := uint64(0)
				for _, i := range run(per+1, int(per)-1) {
					x, _ := r.Count(i)
					others += x
				}
				if own > 1 || added > own || others != added {
					t.Fatal(bits, k, n, own, added, others)
				}
				leaky(t, left)
			})
			if no == api.OK {
				break
			}
		}
	}
}
