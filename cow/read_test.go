package cow

import (
	"bytes"
	"fmt"
	"slices"
	"testing"

	"palimpsest/api"
	"palimpsest/image"
)

// kinds are chains of which the upper image has other clusters than the lower ones, and another size.
func kinds() map[string][]level {
	return map[string][]level{
		"none below":   {{10, 4, 37}},
		"alike":        {{10, 4, 37}, {10, 4, 37}},
		"greater":      {{10, 4, 37}, {12, 4, 37}},
		"smaller":      {{12, 4, 37}, {9, 4, 37}},
		"shorter":      {{10, 4, 37}, {11, 4, 22}},
		"longer":       {{10, 4, 37}, {11, 4, 60}},
		"none to read": {{10, 4, 37}, {10, 4, 0}},
		"two":          {{10, 4, 37}, {12, 4, 29}, {11, 4, 45}},
		"short amidst": {{11, 4, 37}, {9, 4, 13}, {13, 4, 40}},
		"three":        {{9, 4, 37}, {9, 4, 40}, {11, 4, 33}, {10, 4, 37}},
	}
}

// mixed makes a disk of a chain of clusters of all kinds, in another order for each of its disks, so that all kinds come over all kinds.
func (k *stack) mixed() {
	k.t.Helper()
	for i := len(k.disks) - 1; i >= 0; i-- {
		p := k.plains[i]
		turn := []int64{1, 4, 2, 3}[i]
		for c := range int64(len(p.rows)) {
			from := c * p.per
			n := min(p.per, p.size-from)
			list := make([]int, n)
			for s := range list {
				list[s] = int(1+int64(i)*70+from+int64(s)) % 250
			}
			switch c / turn % 4 {
			case 1:
				k.do(i, zeroes(from, n))
			case 2:
				k.do(i, writes(from, list...))
			case 3:
				k.do(i, packs(1, from, list...))
			}
		}
	}
}

// P20.1: what is read is what each cluster's entry tells, and, where that is nothing, what the disks below have, as far as these go.
func TestRead(t *testing.T) {
	for said, levels := range kinds() {
		t.Run(said, func(t *testing.T) {
			t.Parallel()
			k := stacked(t, levels...)
			k.same("nothing written")
			k.mixed()
			k.same()
			p := k.plains[0]
			content := p.bytes(0, p.size)
			for from := range p.size + 1 {
				for n := range p.size - from + 1 {
					sameBytes(t, reads(t, k.top(), from, n), content[from*512:][:n*512], from, n)
				}
			}
			unchanged(t, k.s, func() { k.same() })
		})
	}
}

// P20.1, P20.5: places and lengths that are none, of disks with and without a disk below.
func TestReadRefuses(t *testing.T) {
	for _, levels := range [][]level{{{9, 4, 5}}, {{12, 4, 3}, {9, 4, 9}}, {{9, 4, 0}, {9, 4, 3}}} {
		k := stacked(t, levels...)
		d, p := k.top(), k.plains[0]
		unchanged(t, k.s, func() {
			for _, at := range odd(d.Size()) {
				for _, n := range odd(d.Size()) {
					should := p.ranged(at, n)
					b, no := d.Read(at, int(n))
					if no != should || no != api.OK && b != nil || no == api.OK && int64(len(b)) != n {
						t.Error("read", at, n, no, should, len(b))
					}
					all, no := d.Map(at, n)
					if no != should || (all == nil) != (no != api.OK) {
						t.Error("map", at, n, no, should)
					}
				}
			}
		})
	}
}

// P20.1: what lies beyond the size in the last cluster is not looked at: neither of a cluster, nor of packed bytes, nor of a disk below.
func TestReadBeyondTheSize(t *testing.T) {
	for _, kind := range []api.EntryKind{api.EntryData, api.EntryPacked} {
		k := stacked(t, level{11, 4, 12}, level{11, 4, 6}, level{11, 4, 12})
		k.do(2, writes(0, slices.Repeat([]int{7}, 12)...))
		b := rowOf(1, 2, 3, 4)
		if kind == api.EntryPacked {
			b = packedBytes(t, b)
		}
		put(t, k.disks[1].Image(), 1, kind, b)
		k.plains[1].write(4, []int{1, 2})
		k.plains[1].rows[1].kind = kind
		sameBytes(t, reads(t, k.top(), 0, 12), rowOf(7, 7, 7, 7, 1, 2, 0, 0, 0, 0, 0, 0))
		sameBytes(t, reads(t, k.disks[1], 0, 6), rowOf(7, 7, 7, 7, 1, 2))
		k.same(kind)
		k.did(0, writes(7, 9), settles(2))
		k.same(kind)
	}
}

// put puts an entry that leads to a cluster of these bytes, which are packed already, if it is of that kind; by the calls of an image.
func put(t testing.TB, x *image.Image, at int64, kind api.EntryKind, b []byte) {
	t.Helper()
	place, no := x.Alloc(1)
	want(t, no, api.OK)
	e := api.Entry{Kind: kind, Place: place}
	if kind == api.EntryPacked {
		e.Len = len(b)
	}
	want(t, x.Write(place, b), api.OK)
	want(t, x.Put(at, e), api.OK)
}

// P20.1: own is what has an entry, whatever is below; a cluster that is none of the guest's is refused.
func TestOwn(t *testing.T) {
	k := stacked(t, level{10, 4, 9}, level{9, 4, 20})
	k.do(1, writes(0, 1, 2, 3, 4, 5, 6, 7, 8, 9))
	k.did(0, writes(2, 1), zeroes(4, 2), packs(1, 6, 3, 3))
	for c, should := range []bool{false, true, true, true, false} {
		if own, no := k.top().Own(int64(c)); own != should || no != api.OK {
			t.Error(c, own, no)
		}
	}
	for _, c := range []int64{-1 << 63, -1, 5, 6, 127, 128, 1 << 40, 1<<63 - 1} {
		if own, no := k.top().Own(c); own || no != api.ErrRange {
			t.Error(c, own, no)
		}
	}
	k.did(0, forgets(1), forgets(2), forgets(3))
	for c := range int64(5) {
		if own, no := k.top().Own(c); own || no != api.OK {
			t.Error(c, own, no)
		}
	}
	for sectors := range int64(10) {
		d := alone(t, 10, 4, sectors).top()
		for c := range int64(10) {
			should := api.OK
			if 2*c >= sectors {
				should = api.ErrRange
			}
			if own, no := d.Own(c); own || no != should {
				t.Error(sectors, c, own, no)
			}
		}
	}
}

// P20.1: what is answered is new memory each time.
func TestReadIsNew(t *testing.T) {
	k := stacked(t, level{10, 4, 8}, level{10, 4, 8})
	k.do(1, writes(0, 1, 2, 3))
	k.did(0, packs(1, 4, 5, 5), writes(6, 7))
	one, other := reads(t, k.top(), 0, 8), reads(t, k.top(), 0, 8)
	clear(one)
	sameBytes(t, other, k.plains[0].bytes(0, 8))
	k.same()
}

// P20.1, P20.2: what is handed in is neither changed nor kept.
func TestHandedIn(t *testing.T) {
	k := alone(t, 10, 4, 8)
	for _, do := range []func(b []byte) api.Errno{
		func(b []byte) api.Errno { return k.top().Write(512, b) },
		func(b []byte) api.Errno { return k.top().Write(0, b) },
		func(b []byte) api.Errno { return k.top().Pack(2048, b, 1) },
		func(b []byte) api.Errno { return k.top().Pack(2048, b, 0) },
	} {
		room := append(rowOf(1, 2, 3, 4), 77)
		b := room[:1024]
		want(t, do(b), api.OK)
		sameBytes(t, room, append(rowOf(1, 2, 3, 4), 77))
		was, _ := k.top().Read(0, 4096)
		clear(room)
		now, _ := k.top().Read(0, 4096)
		sameBytes(t, now, was)
	}
}

// bads are packed bytes that are not those of a cluster of 1024 bytes.
func bads(t testing.TB) [][]byte {
	t.Helper()
	short := packedBytes(t, rowOf(6, 6))
	return [][]byte{
		{7}, {0x4b}, bytes.Repeat([]byte{7}, 40), short[:len(short)-1],
		packedBytes(t, nil), packedBytes(t, sector(6)), packedBytes(t, rowOf(6, 6, 6)), packedBytes(t, append(rowOf(6, 6), 6)), packedBytes(t, rowOf(6, 6)[1:]),
	}
}

// P20.1: packed bytes that cannot be unpacked, or tell another number of bytes, are broken, wherever they lie among what is read; all else can be read.
func TestReadBroken(t *testing.T) {
	for _, bad := range bads(t) {
		k := stacked(t, level{10, 4, 9}, level{10, 4, 9})
		k.do(1, writes(0, 1, 2, 3, 4, 5, 6, 7, 8, 9))
		for i := range 2 {
			put(t, k.disks[i].Image(), 1, api.EntryPacked, bad)
			for from := range int64(9) {
				for n := range 10 - from {
					has := n > 0 && from < 4 && from+n > 2
					b, no := k.top().Read(from*512, int(n*512))
					if (no == api.ErrBroken) != has || no != api.OK && (no != api.ErrBroken || b != nil) {
						t.Fatal(fmt.Sprint(bad, i, from, n), no)
					}
				}
			}
			k.do(i, forgets(1))
		}
	}
}

// P20.1: what the images answer comes ahead of packed bytes that cannot be unpacked, wherever both lie.
func TestReadBrokenBehind(t *testing.T) {
	k := stacked(t, level{10, 4, 8}, level{10, 4, 8})
	put(t, k.top().Image(), 0, api.EntryPacked, []byte{7})
	put(t, k.top().Image(), 3, api.EntryPacked, []byte{7})
	want(t, k.disks[1].Image().Close(), api.OK)
	for _, c := range []struct {
		from, n int64
		no      api.Errno
	}{{0, 2, api.ErrBroken}, {0, 8, api.ErrNil}, {0, 4, api.ErrNil}, {4, 4, api.ErrNil}, {6, 2, api.ErrBroken}} {
		if _, no := k.top().Read(c.from*512, int(c.n*512)); no != c.no {
			t.Error("read", c, no)
		}
		if _, no := k.top().Map(c.from*512, c.n*512); no != c.no {
			t.Error("map", c, no)
		}
	}
	// The first cluster is only written in part, and so is the second one.
	want(t, k.top().Write(512, rowOf(1, 2)), api.ErrNil)
	want(t, k.top().Zero(512, 1024), api.ErrNil)
	want(t, k.top().Write(512, sector(1)), api.ErrBroken)
}

// P20.1: an image whose file is gone, or is no image any more, answers what image does.
func TestReadGone(t *testing.T) {
	k := stacked(t, level{10, 4, 8}, level{10, 4, 8})
	k.do(0, writes(0, 1, 2))
	want(t, k.s.Remove("b"), api.OK)
	sameBytes(t, reads(t, k.top(), 0, 2), rowOf(1, 2))
	for _, at := range []int64{0, 1024} {
		if b, no := k.top().Read(at, 2048); b != nil || no != api.ErrNone {
			t.Error(at, no)
		}
	}
	want(t, k.s.Write("a", 0, []byte("none")), api.OK)
	for call, do := range calls() {
		if call != "Flush" {
			want(t, do(k.top()), api.ErrHead, call)
		}
	}
	if k.top().Size() != 0 {
		t.Error(k.top().Size())
	}
	want(t, k.s.Remove("a"), api.OK)
	for call, do := range calls() {
		want(t, do(k.top()), api.ErrNone, call)
	}
}
