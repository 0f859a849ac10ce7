package cow

import (
	"fmt"
	"strings"
	"testing"

	"palimpsest/api"
)

// fill leaves no free cluster in an image, and tells which ones were taken for that.
func (k *stack) fill() []int64 {
	k.t.Helper()
	var taken []int64
	for n := 1 << 16; n > 0; {
		place, no := k.top().Image().Alloc(n)
		if no == api.ErrFull {
			n /= 2
			continue
		}
		want(k.t, no, api.OK)
		for i := range n {
			taken = append(taken, place+int64(i)<<k.bits())
		}
	}
	return taken
}

// free lets so many of those that were taken be free, no two of them behind one another.
func (k *stack) free(taken []int64, many int) {
	k.t.Helper()
	for i := range many {
		want(k.t, k.top().Image().Free(taken[2*i], 1), api.OK)
	}
	want(k.t, k.top().Flush(), api.OK)
}

// bits is how great the clusters of the disk above all others are.
func (k *stack) bits() int {
	h, no := k.top().Image().Head()
	want(k.t, no, api.OK)
	return h.Bits
}

// packedFull is a chain whose upper image has a table of its own, one that a snapshot shares, and one that is missing; the counts' room is small.
func packedFull(t testing.TB) *stack {
	t.Helper()
	k := stacked(t, level{9, 6, 64*2 + 10}, level{11, 4, 64*2 + 10})
	k.did(1, writes(0, fresh(100, 64*2+10)...))
	k.did(0, writes(64, 1, 2, 3), packs(1, 67, 9, 9))
	snapped(t, k.top().Image())
	k.did(0, writes(0, 4, 5, 6), packs(1, 3, 9, 9), zeroes(5, 2))
	return k
}

// P20.2 to P20.4 (P0.1): where there is no room for all of what a call needs it is refused, and nothing has changed: neither the content nor what is held; with just so much room it goes.
func TestNoRoom(t *testing.T) {
	t.Parallel()
	base := packedFull(t)
	taken := base.fill()
	base = base.again()
	for _, c := range []struct {
		act
		need int
	}{
		{writes(0, 7, 8, 9), 0}, {writes(2, 7, 8, 9), 2}, {writes(3, 7), 1}, {writes(5, 7, 8, 9), 3},
		{writes(64, 7), 2}, {writes(62, 7, 8, 9, 10), 5}, {writes(64, 7, 8, 9, 10, 11, 12), 7},
		{writes(128, 7), 2}, {writes(126, 7, 8, 9, 10), 6}, {writes(63, fresh(30, 66)...), 68},
		{zeroes(0, 7), 0}, {zeroes(64, 1), 1}, {zeroes(63, 66), 2}, {zeroes(127, 2), 2}, {writes(127, 7, 8), 4}, {zeroes(127, 11), 2}, {zeroes(128, 1), 1},
		{packs(1, 0, 7, 8, 9), 1}, {packs(1, 67, 7, 8), 2}, {packs(1, 126, 7, 8, 9, 10), 3},
		{packs(1, 126, wild, 8, wild+1, 10), 5}, {packs(1, 0, wild, 8, wild+1, wild+2), 2},
		{forgets(0), 0}, {forgets(64), 1}, {forgets(128), 0}, {settles(3), 1}, {settles(7), 1}, {settles(67), 2}, {settles(128), 2}, {settles(5), 0},
	} {
		for _, free := range []int{0, c.need / 2, c.need - 1, c.need, c.need + 1} {
			if free < 0 {
				continue
			}
			k := base.copied()
			k.free(taken, free)
			was := k.holds()
			if free >= c.need {
				want(t, c.on(k.top()), api.OK, c.said, free)
				c.plainly(k.plains[0])
			} else {
				want(t, c.on(k.top()), api.ErrFull, c.said, free)
				if now := k.holds(); now != was {
					t.Error(c.said, free, "it holds other clusters", was, now)
				}
			}
			if wrong := k.plains[0].differs(k.top()); wrong != "" {
				t.Error(c.said, free, wrong)
			}
			leaky(t, k.s, "a", c.said, free)
			if write, dead, _ := k.top().Image().State(); !write || dead {
				t.Error(c.said, free, "it is dead")
			}
			want(t, k.top().Flush(), api.OK)
		}
	}
}

// holds tells of the image above all others how its entries are, and what counts are not 0.
func (k *stack) holds() string {
	k.t.Helper()
	var told strings.Builder
	for c := range k.plains[0].rows {
		fmt.Fprint(&told, entryOf(k.t, k.top(), int64(c)))
	}
	size, no := k.s.Size("a")
	want(k.t, no, api.OK)
	cluster := int64(1) << k.bits()
	for at := int64(0); at < size; at += cluster {
		n, no := k.top().Image().Count(at)
		want(k.t, no, api.OK)
		fmt.Fprint(&told, " ", n)
	}
	return told.String()
}

// P20.6: while clusters are given back that were taken, as there is no room for all, a step fails: its error, and the image is dead.
func TestNoRoomAndFaults(t *testing.T) {
	base := packedFull(t)
	taken := base.fill()
	base = base.again()
	for _, a := range []act{writes(126, 7, 8, 9, 10), zeroes(63, 66), packs(1, 126, wild, 8, wild+1, 10)} {
		for n, fed := 0, true; fed; n++ {
			k := base.copied()
			free := 2
			if a.said == zeroes(63, 66).said {
				free = 1
			}
			k.free(taken, free)
			feed(t, k.s, n, api.Fate{Kind: api.FateFail})
			no := a.on(k.top())
			fed = !unfed(k.s)
			_, dead, _ := k.top().Image().State()
			if no != map[bool]api.Errno{true: api.ErrDisk, false: api.ErrFull}[fed] || dead != fed {
				t.Error(a.said, n, no, dead)
			}
			if wrong := k.plains[0].differs(k.top()); wrong != "" {
				t.Error(a.said, n, wrong)
			}
			leaky(t, k.s, "a", a.said, n)
			if n == 0 && !fed {
				t.Error("no step", a.said)
			}
		}
	}
}

// P20.2 (P0.1): where a file may not become greater there is no room, either.
func TestNoRoomOfTheFile(t *testing.T) {
	k := alone(t, 16, 6, 128*8)
	k.did(0, writes(0, fresh(1, 128*3)...))
	k.fill()
	if size, _ := k.s.Size("a"); size != api.MaxFile {
		t.Fatal(size)
	}
	want(t, k.top().Write(2*65536, make([]byte, 2*65536)), api.ErrFull)
	want(t, k.top().Write(4*65536, make([]byte, 512)), api.ErrFull)
	want(t, k.top().Pack(4*65536, make([]byte, 65536), 1), api.ErrFull)
	if wrong := k.plains[0].differs(k.top()); wrong != "" {
		t.Error(wrong)
	}
	k.do(0, zeroes(0, 128))
	k.do(0, writes(128*4, fresh(7, 128)...))
	if wrong := k.plains[0].differs(k.top()); wrong != "" {
		t.Error(wrong)
	}
}

// P20.2: where an entry is refused, as its old cluster's count is too low, what was done ahead of it stays, and what was taken for it is given back.
func TestPutRefused(t *testing.T) {
	k := alone(t, 10, 4, 8)
	k.did(0, writes(0, 1, 2, 3, 4, 5, 6))
	old := entryOf(t, k.top(), 1)
	want(t, k.top().Image().Share(entryOf(t, k.top(), 0).Place), api.OK)
	want(t, k.top().Image().Free(old.Place, 1), api.OK)
	held := k.counted()
	want(t, k.top().Write(512, rowOf(7, 8, 9, 10)), api.ErrBroken)
	sameBytes(t, reads(t, k.top(), 0, 2), rowOf(1, 7))
	if countOf(t, k.top(), 0) != 1 || entryOf(t, k.top(), 1) != old || countOf(t, k.top(), 2) != 1 {
		t.Error(countOf(t, k.top(), 0), entryOf(t, k.top(), 1), countOf(t, k.top(), 2))
	}
	// One cluster was taken, and one is held once less.
	if now := k.counted(); now != held {
		t.Error(held, now)
	}
}

// P20.4: likewise of what is packed: the count of the cluster that others are in, too, is as great as there are such entries.
func TestPutOfPackedRefused(t *testing.T) {
	k := alone(t, 10, 4, 8)
	k.did(0, writes(0, 1, 2, 3, 4, 5, 6), packs(1, 6, 9, 9))
	old, open := entryOf(t, k.top(), 1), entryOf(t, k.top(), 3)
	want(t, k.top().Image().Free(old.Place, 1), api.OK)
	want(t, k.top().Pack(0, rowOf(7, 7, 8, 8, 10, 10), 1), api.ErrBroken)
	sameBytes(t, reads(t, k.top(), 0, 2), rowOf(7, 7))
	sameBytes(t, reads(t, k.top(), 4, 4), rowOf(5, 6, 9, 9))
	if now := entryOf(t, k.top(), 0); now.Place != open.Place+int64(open.Len) || entryOf(t, k.top(), 1) != old || countOf(t, k.top(), 3) != 2 {
		t.Error(now, entryOf(t, k.top(), 1), countOf(t, k.top(), 3))
	}
}

// counted is all counts of an image together.
func (k *stack) counted() uint64 {
	k.t.Helper()
	size, no := k.s.Size("a")
	want(k.t, no, api.OK)
	all := uint64(0)
	for at := int64(0); at < size; at += 1024 {
		n, no := k.top().Image().Count(at)
		want(k.t, no, api.OK)
		all += n
	}
	return all
}
