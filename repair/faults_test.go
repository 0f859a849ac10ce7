package repair

import (
	"bytes"
	"fmt"
	"testing"

	"palimpsest/api"
	"palimpsest/store"
)

// underway holds what a Repair that did not end has left against what it promises: nothing is written but counts and the flag, each of which is as it was or as it is to be; none is lowered unless all that were too low are raised, and that lasts; the flag stays unless all are right, and that lasts.
func underway(t testing.TB, before, after []byte, s *store.Store, said ...any) {
	t.Helper()
	was, is := read(before), read(after)
	now, lasts := read(whole(t, s)), read(whole(t, lasting(t, s)))
	sameBytes(t, without(now.b), without(before), said...)
	raised, lowered, begun := true, true, false
	for k := range was.clusters {
		old, _ := was.count(k)
		should, _ := is.count(k)
		have, _ := now.count(k)
		last, _ := lasts.count(k)
		if have != old && have != should || last != old && last != should {
			t.Fatal("count ", k, old, should, have, last, said)
		}
		raised = raised && (old >= should || last == should)
		lowered = lowered && (old <= should || last == should)
		begun = begun || old > should && have == should
	}
	if begun && !raised {
		t.Fatal("lowered ahead of all that is raised", said)
	}
	if now.h.Flags != was.h.Flags && (!raised || !lowered) {
		t.Fatal("the flag is off ahead of the counts", said)
	}
}

// without is an image's bytes without its blocks and its flags.
func without(b []byte) []byte {
	p := read(bytes.Clone(b))
	for k := range p.clusters {
		p.set(k, 0)
	}
	p.b[8] = 0
	return p.b
}

// sick are images in which several sectors of blocks have counts that are too low, too high, both; what they are to be is told beside.
func sick(t testing.TB, order int) (list []*picture, after []byte) {
	t.Helper()
	p, ends := wide(t, order)
	var low, leaks []uint64
	for i, k := range ends {
		if i < 6 && i%2 == 0 {
			low = append(low, uint64(k), 0)
		} else {
			leaks = append(leaks, uint64(k), 1+uint64(i+3)/9*2)
		}
	}
	for i := 1; i < len(leaks)-4; i += 2 { // those that are held
		leaks[i] = 2
	}
	for _, q := range []*picture{p, p.bent(low...), p.bent(leaks...), p.bent(append(low, leaks...)...)} {
		list = append(list, q, q.dirty())
	}
	return list, p.b
}

// P18.1, P18.3: a step that fails at each place, in each way: its error, and nothing beside; then Repair once more goes well, and check finds nothing; the same of each way of a crash.
func TestFaultAtEachPlace(t *testing.T) {
	for _, order := range []int{5, 6} {
		list, after := sick(t, order)
		for i, p := range list {
			t.Run(fmt.Sprint(order, i), func(t *testing.T) {
				t.Parallel()
				base := p.laid()
				could, no := Could(base, name)
				want(t, no, api.OK)
				should := 0
				for _, fate := range fails() {
					should = max(should, failed(t, base, after, fate))
				}
				least := 0
				for _, is := range []bool{could.Low > 0, could.Leaks > 0, could.Dirty} {
					if is {
						least += 2
					}
				}
				if should < least {
					t.Error("few steps", should, could)
				}
			})
		}
	}
}

// failed lets each step of a Repair fail, and tells how many there are.
func failed(t testing.TB, base *store.Store, after []byte, fate api.Fate) int {
	t.Helper()
	before := whole(t, base)
	for k := 0; ; k++ {
		s := base.Copy()
		feed(t, s, k, fate)
		f, no := Repair(s, name)
		if unfed(s) {
			want(t, no, api.OK)
			return k
		}
		said := fmt.Sprint("step ", k, ", fate ", fate)
		if f != (api.Fixed{}) || no != told(fate) {
			t.Fatal(said, f, no)
		}
		underway(t, before, after, s, said)
		again(t, s.Copy(), after, said)
		crashes(t, s, func(n int, left *store.Store) {
			underway(t, before, after, left, said, ", crash ", n)
			again(t, left, after, said, ", crash ", n)
		})
	}
}

// again lets what was left be mended: it goes well.
func again(t testing.TB, s *store.Store, after []byte, said ...any) {
	t.Helper()
	if _, no := mended(t, s); no != api.OK {
		t.Fatal(no, said)
	}
	sameBytes(t, whole(t, s), after, said...)
}

// P18.3: of faults one behind another, and crashes between, too.
func TestFaultsOneBehindAnother(t *testing.T) {
	list, after := sick(t, 6)
	base := list[len(list)-1].laid()
	for first := range 12 {
		t.Run(fmt.Sprint(first), func(t *testing.T) {
			t.Parallel()
			for second := range 12 {
				for _, fate := range fails() {
					s := base.Copy()
					feed(t, s, first, fate)
					if Repair(s, name); unfed(s) {
						continue
					}
					c, no := s.Crash(1, first&1, second&1, 1)
					want(t, no, api.OK)
					for _, left := range []*store.Store{s, c} {
						feed(t, left, second, fate)
						Repair(left, name)
						again(t, drained(left), after, first, second, fate)
					}
				}
			}
		})
	}
}

// drained is a store with the same files, pieces and all, of which no further step fails.
func drained(s *store.Store) *store.Store {
	s = s.Copy()
	for unfed(s) {
		s.Write("another", 0, nil)
	}
	return s
}

// P18.1, P18.3: while a Repair goes on, a crash of each way ahead of each of its steps.
func TestCrashAtEachPlace(t *testing.T) {
	for order := range 7 {
		t.Run(fmt.Sprint(order), func(t *testing.T) {
			t.Parallel()
			p := full(t, 9, order)
			after := p.b
			for _, q := range []*picture{p.bent(0, 0), p.bent(30, 1), p.bent(0, 0, 1, 0, 5, 0, 30, 1, 31, 1), p.bent(0, 0, 30, 1).dirty(), p.dirty()} {
				base := q.laid()
				for k := 0; ; k++ {
					s := base.Copy()
					feed(t, s, k, api.Fate{Kind: api.FateFail})
					Repair(s, name)
					if unfed(s) {
						break
					}
					crashes(t, s, func(n int, left *store.Store) {
						underway(t, q.b, after, left, k, n)
						again(t, left, after, k, n)
					})
				}
			}
		})
	}
}
