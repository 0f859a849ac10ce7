package refs

import (
	"bytes"
	"encoding/binary"
	"fmt"
	"slices"
	"testing"

	"palimpsest/api"
	"palimpsest/store"
)

// call is a call whose steps may fail: what is to be added to the counts of which clusters (of an Alloc it is asked for), and to which size the file may grow.
type call struct {
	said string
	by   int64
	list []int64
	do   func(r *Refs) api.Errno
}

// faulty is an image whose first block is there, and its fourth one, which lies ahead; the two between are missing. Some clusters have counts and no holders.
func faulty(t testing.TB, bits, order int) *picture {
	t.Helper()
	p := right(t, bits, order, 1).grown(8)
	per := p.c * 8 >> order
	p.block(3, 3)
	p.count(3, 1)
	for _, k := range []int64{4, 5, 20, 21, per - 1, 3*per + 9, 3*per + 10, 4*per - 1} {
		p.count(k, 1)
	}
	for i := range 4 * p.c {
		p.b[4*p.c+i] = byte(i%200 + 9)
	}
	return p
}

// calls are calls of all sorts of such an image, whose blocks have so many counts.
func calls(per int64) []call {
	add := func(by int64, list ...int64) call {
		return call{fmt.Sprint("Add ", by, list), by, list, func(r *Refs) api.Errno { return r.Add(by, list...) }}
	}
	take := func(n int64) call {
		return call{fmt.Sprint("Alloc ", n), 1, nil, func(r *Refs) api.Errno {
			_, no := r.Alloc(int(n))
			return no
		}}
	}
	free := func(first, n int64) call {
		return call{fmt.Sprint("Free ", first, n), -1, run(first, int(n)), func(r *Refs) api.Errno { return r.Free(first*r.cluster, int(n)) }}
	}
	return []call{
		add(1, 6), add(1, 6, 9, 7, 6), add(1, 3*per+2, 6), add(1, per+5), add(1, per), add(1, 2*per+9, 7, per+5, 3*per-1, per+6, 3*per+2),
		take(1), take(3), take(per - 30), take(per - 1), take(per + 5),
		add(-1, 4), add(-1, 5, 3*per+10, 4), free(20, 2), free(3*per+9, 2),
	}
}

// fates are the ways in which a step may fail.
func fates() []api.Fate {
	return []api.Fate{{Kind: api.FateFail}, {Kind: api.FateFail, Keep: 1}, {Kind: api.FateFull, Keep: 2}, {Kind: api.FateFull, Keep: 99}}
}

// between tells what is wrong of an image behind a call that failed: each count is as it was or as it was to be, a block that was missing is there or not, and all else is as it was.
func between(before, after *plain, b []byte) string {
	now := &plain{b, before.c, before.width, before.per, before.table, before.end}
	if len(b) < len(before.b) || len(b) > len(after.b) {
		return fmt.Sprint("size ", len(b))
	}
	mayChange := map[int64]struct{}{} // clusters, by their places
	for at := before.table; at < before.end; at += 8 {
		old, asked, have := binary.LittleEndian.Uint64(before.b[at:]), binary.LittleEndian.Uint64(after.b[at:]), binary.LittleEndian.Uint64(b[at:])
		if have != old && have != asked {
			return fmt.Sprint("the table at ", at)
		}
		mayChange[at/before.c*before.c] = struct{}{}
		mayChange[int64(asked)] = struct{}{}
	}
	old := append(slices.Clone(before.b), make([]byte, len(b)-len(before.b))...)
	for at := int64(0); at < int64(len(b)); at += now.c {
		end := min(at+now.c, int64(len(b)))
		if _, is := mayChange[at]; !is && !bytes.Equal(b[at:end], old[at:end]) {
			return fmt.Sprint("the cluster at ", at)
		}
	}
	for k := range 5 * before.per {
		old, _ := before.count(k)
		asked, _ := after.count(k)
		place, no := now.block(k)
		have, _ := now.count(k)
		own := k%now.per == 0 && place == now.home(k) && have == 1
		if no != api.OK || have != old && have != asked && !own {
			return fmt.Sprint("count of ", k, ": ", have, ", it was ", old, ", was to be ", asked)
		}
	}
	return ""
}

// asked is what a call is to leave.
func asked(t testing.TB, p *picture, s *store.Store, c call) (before, after *plain) {
	t.Helper()
	before = reckon(p.h, whole(t, s))
	list, end := c.list, int64(0)
	if list == nil {
		dry := s.Copy()
		want(t, c.do(open(t, dry)), api.OK)
		now := reckon(p.h, whole(t, dry))
		for k := range 5 * now.per {
			old, _ := before.count(k)
			if x, _ := now.count(k); x > old && !(k%now.per == 0 && k/now.per < 3) {
				list = append(list, k)
				end = k + 1
			}
		}
	}
	after, no := before.added(c.by, list...)
	want(t, no, api.OK)
	after.grow(end * p.c)
	return before, after
}

// P16.4: a step that fails at each place of each call: its error is told, and each count is as it was, or as it was to be; so it is in whatever a crash leaves then.
func TestFaultAtEachPlace(t *testing.T) {
	for _, c := range []struct{ bits, order int }{{9, 6}, {9, 4}, {10, 6}} {
		t.Run(fmt.Sprint(c), func(t *testing.T) {
			t.Parallel()
			p := faulty(t, c.bits, c.order)
			s := p.laid(t)
			leaky(t, s)
			for _, call := range calls(p.c * 8 >> c.order) {
				for _, fate := range fates() {
					faultsOf(t, p, s, call, fate)
				}
			}
		})
	}
}

// faultsOf lets each step of a call fail.
func faultsOf(t *testing.T, p *picture, base *store.Store, c call, fate api.Fate) {
	t.Helper()
	should := map[api.FateKind]api.Errno{api.FateFail: api.ErrDisk, api.FateFull: api.ErrFull}[fate.Kind]
	before, after := asked(t, p, base, c)
	for k := 0; ; k++ {
		s := base.Copy()
		r := open(t, s)
		want(t, s.Feed(append(make([]api.Fate, k), fate)...), api.OK)
		no := c.do(r)
		if _, left := s.Steps(); left > 0 {
			want(t, no, api.OK)
			sameBytes(t, s, after.b, c.said)
			if k == 0 {
				t.Fatal("no step at all", c.said)
			}
			return
		}
		said := fmt.Sprint(c.said, ", step ", k, ", fate ", fate)
		if no != should {
			t.Fatalf("%s: %v, want %v", said, no, should)
		}
		crashes(t, s, func(n int, left *store.Store) {
			if wrong := between(before, after, whole(t, left)); wrong != "" {
				t.Fatal(said, ", crash ", n, ": ", wrong)
			}
			leakyUnless(t, c.by < 0, left, said, n)
		})
		if wrong := between(before, after, whole(t, s)); wrong != "" {
			t.Fatal(said, ": ", wrong)
		}
		leakyUnless(t, c.by < 0, s, said)
		// Behind it all goes on; what is left of a run that was not answered may lie in the way of another one.
		if c.by > 0 {
			if no := c.do(r); no != api.OK && !(no == api.ErrFull && c.list == nil) {
				t.Fatal(said, " once more: ", no)
			}
			leaky(t, s, said)
			leaky(t, lasting(t, s), said)
		}
	}
}

// leakyUnless asks check, unless counts were lowered: all that the calls lower are leaks, but what is lowered twice may be none.
func leakyUnless(t testing.TB, lowered bool, s *store.Store, said ...any) {
	t.Helper()
	if !lowered {
		leaky(t, s, said...)
	}
}

// P16.4: an Alloc that fails answers no place, and what it had raised is not taken for free again.
func TestAllocFails(t *testing.T) {
	p := right(t, 9, 6, 1)
	for k := range 20 {
		s, r := p.opened(t)
		want(t, s.Feed(append(make([]api.Fate, k), api.Fate{Kind: api.FateFail, Keep: 5})...), api.OK)
		place, no := r.Alloc(62) // of the second block, which is missing
		if _, left := s.Steps(); left > 0 {
			want(t, no, api.OK)
			if k < 4 {
				t.Error("few steps", k)
			}
			return
		}
		if place != 0 || no != api.ErrDisk {
			t.Fatal(k, place, no)
		}
		raised := slices.DeleteFunc(run(0, 256), func(i int64) bool {
			x, _ := r.Count(i)
			return x == 0
		})
		first := took(t, r, 62)
		for _, i := range run(first, 62) {
			if slices.Contains(raised, i) {
				t.Fatal(k, "a leak was taken", i)
			}
			counted(t, r, i, 1)
		}
		leaky(t, s)
	}
	t.Error("it takes too many steps")
}
