package cow

import (
	"fmt"
	"slices"
	"testing"

	"palimpsest/api"
	"palimpsest/store"
)

// deed is an act on one of the disks of a chain, or a flush of both.
type deed struct {
	disk int
	act
	flush bool
}

// asking is a script under way: what each sector of each disk may be, whatever a crash leaves.
type asking struct {
	*stack
	asked [][][]int
}

// began is a script that begins with what lasts.
func (k *stack) began() *asking {
	a := &asking{k, nil}
	for _, p := range k.plains {
		a.asked = append(a.asked, oneOf(p))
	}
	return a
}

// ask does a deed. What it writes may be there from now on, also where it fails; behind a flush nothing else may.
func (a *asking) ask(d deed) api.Errno {
	if d.flush {
		for i, x := range a.disks {
			if no := x.Flush(); no != api.OK {
				return no
			}
			// What is below is flushed behind what is above: the upper one's sectors may be the lower one's till then.
			if i == len(a.disks)-1 {
				for n, p := range a.plains {
					a.asked[n] = oneOf(p)
				}
			}
		}
		return api.OK
	}
	d.plainly(a.plains[d.disk])
	for n := len(a.plains) - 1; n >= 0; n-- {
		for s := range a.asked[n] {
			x, _, depth := a.plains[n].tells(int64(s))
			a.add(n, s, x)
			// What shines through may be all that it may be below.
			if depth > 0 {
				a.add(n, s, a.asked[n+1][s]...)
			}
		}
	}
	return d.on(a.disks[d.disk])
}

// add lets a sector of a disk be some more.
func (a *asking) add(n, s int, list ...int) {
	for _, x := range list {
		if !slices.Contains(a.asked[n][s], x) {
			a.asked[n][s] = append(a.asked[n][s], x)
		}
	}
}

// sound tells of whatever a crash leaves that nothing but leaks is found, and that each sector of each disk is one of those that it may be.
func (a *asking) sound(said ...any) {
	a.t.Helper()
	crashes(a.t, a.s, func(n int, s *store.Store) {
		k := &stack{t: a.t, s: s}
		k.open(false, len(a.disks))
		for i, d := range k.disks {
			leaky(a.t, s, called(i), said, n)
			if wrong := may(d, 0, a.asked[i]); wrong != "" {
				a.t.Fatal("disk ", i, ": ", wrong, said, "crash", n)
			}
		}
	})
}

// scripted are deeds for a chain of small images.
func scripted() []deed {
	return []deed{
		{act: flushes(), flush: true},
		{act: writes(0, 51)},
		{act: writes(1, 52, 53, 54)},
		{act: zeroes(1, 4)},
		{act: packs(1, 2, 57, 57, 58, 58)},
		{act: forgets(1)},
		{act: settles(2)},
		{act: packs(1, 4, wild, wild+1, 60)},
		{disk: 1, act: writes(1, 61, 62)},
		{disk: 1, act: zeroes(0, 3)},
	}
}

// crashing is a chain of two small images, of which a snapshot holds one cluster of the upper one, too.
func crashing(t testing.TB) *stack {
	t.Helper()
	k := stacked(t, level{10, 4, 7}, level{10, 3, 6})
	k.did(1, writes(0, fresh(100, 6)...))
	k.do(0, writes(2, 8, 9))
	snapped(t, k.top().Image())
	k.did(0, writes(0, 6, 7), packs(1, 4, 10, 10))
	k.did(0, flushes())
	k.did(1, flushes())
	return k.again()
}

// played goes through a script with its fates, and tells whether one is left; what a crash leaves is looked at behind the deed that failed, and behind each one, if none is fed.
func played(t testing.TB, base *stack, script []deed, fates ...api.Fate) bool {
	t.Helper()
	a := base.copied().began()
	want(t, a.s.Feed(fates...), api.OK)
	var said []any
	for _, d := range script {
		no := a.ask(d)
		said = append(said, d.disk, d.said, no)
		if no != api.OK {
			a.sound(append(said, fates)...)
			return unfed(a.s)
		}
		if len(fates) == 0 {
			a.sound(said...)
		}
	}
	return unfed(a.s)
}

// P20.7: scripts of a few calls to both disks, with a step that fails at each place, and a crash of each way between any two steps: nothing but leaks is found, and each sector is as at the last flush that went well, or as some write since asked.
func TestScriptsAndCrashes(t *testing.T) {
	base := crashing(t)
	for first := range scripted() {
		t.Run(fmt.Sprint(first), func(t *testing.T) {
			t.Parallel()
			base := &stack{t: t, s: base.s, plains: base.plains}
			all := scripted()
			for i, second := range all {
				for third := (first + i) % 5; third < len(all); third += 5 {
					script := []deed{all[first], second, all[third]}
					played(t, base, script)
					for n, left := 0, false; !left; n++ {
						left = played(t, base, script, append(make([]api.Fate, n), api.Fate{Kind: api.FateFail, Keep: n % 3})...)
					}
				}
			}
		})
	}
}

// P20.7: behind a crash of each way an image that is made right goes on: what is written then is what is read, and nothing is broken.
func TestBehindACrash(t *testing.T) {
	base := crashing(t)
	for n := range 30 {
		for _, d := range scripted() {
			k := base.copied()
			feed(t, k.s, n, api.Fate{Kind: api.FateFail, Keep: 1})
			d.on(k.disks[d.disk])
			if unfed(k.s) {
				continue
			}
			crashes(t, k.s, func(way int, s *store.Store) {
				right(t, s, "a")
				right(t, s, "b")
				after := &stack{t: t, s: s, plains: base.plains[0].copies()}
				after.open(true, 2)
				for i, p := range after.plains {
					list := fresh(200, p.size)
					after.did(i, writes(0, list...), packs(1, 0, list[:4]...), zeroes(1, 2))
				}
				after.same(d.said, n, way)
			})
		}
	}
}
