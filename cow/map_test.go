package cow

import (
	"slices"
	"testing"

	"palimpsest/api"
)

// P20.5: each range of chains of all kinds and depths: pieces of one kind and depth, in order, as long as can be.
func TestMap(t *testing.T) {
	for said, levels := range kinds() {
		t.Run(said, func(t *testing.T) {
			t.Parallel()
			k := stacked(t, levels...)
			k.mixed()
			p := k.plains[0]
			for from := range p.size + 1 {
				for n := range p.size - from + 1 {
					have, no := extentsOf(k.top(), from*512, n*512)
					if should := p.extents(from, n); no != api.OK || !slices.Equal(have, should) {
						t.Fatal(from, n, no, have, should)
					}
				}
			}
		})
	}
}

// P20.7: Map's pieces lie behind one another; what is nothing, or noughts, reads as noughts, and nothing is of the depth 0; none of two pieces behind one another is as the other one.
func TestMapFits(t *testing.T) {
	for said, levels := range kinds() {
		k := stacked(t, levels...)
		k.mixed()
		for i, d := range k.disks {
			list, no := extentsOf(d, 0, d.Size())
			want(t, no, api.OK)
			end := int64(0)
			for n, x := range list {
				if x.At != end || x.Len <= 0 {
					t.Error(said, i, x, end)
				}
				end = x.At + x.Len
				b, no := d.Read(x.At, int(x.Len))
				want(t, no, api.OK)
				switch x.Kind {
				case api.EntryNone, api.EntryZero:
					sameBytes(t, b, make([]byte, x.Len), said, x)
				}
				if x.Kind == api.EntryNone && x.Depth != 0 {
					t.Error(said, i, x)
				}
				if n > 0 && list[n-1].Kind == x.Kind && list[n-1].Depth == x.Depth {
					t.Error(said, i, x)
				}
			}
			if end != d.Size() {
				t.Error(said, i, end)
			}
		}
	}
}

// P20.5: it may be left at any time, and gone through as often as one likes, also within one another.
func TestMapLeftAndAgain(t *testing.T) {
	k := stacked(t, level{10, 4, 37}, level{12, 4, 29})
	k.mixed()
	should := k.plains[0].extents(3, 30)
	all, no := k.top().Map(3*512, 30*512)
	want(t, no, api.OK)
	for n := range len(should) + 1 {
		var have []api.Extent
		for x := range all {
			if len(have) == n {
				break
			}
			have = append(have, x)
		}
		if !slices.Equal(have, should[:n]) {
			t.Error(n, have)
		}
		if !slices.Equal(slices.Collect(all), should) {
			t.Error(n, slices.Collect(all))
		}
	}
	n := 0
	for x := range all {
		if x != should[n] || !slices.Equal(slices.Collect(all), should) {
			t.Error(n, x)
		}
		n++
	}
}

// P20.5: it is as the disk was when Map was called, whatever is done to it, and to those below, meanwhile; also when it is closed.
func TestMapAsItWas(t *testing.T) {
	k := stacked(t, level{10, 4, 20}, level{11, 4, 20})
	k.mixed()
	should := k.plains[0].extents(0, 20)
	all, no := k.top().Map(0, 20*512)
	want(t, no, api.OK)
	n := 0
	for x := range all {
		if x != should[n] {
			t.Error(n, x, should[n])
		}
		n++
		k.did(n%2, zeroes(0, 19), writes(int64(n), 5), forgets(2))
	}
	if n != len(should) {
		t.Error(n, len(should))
	}
	k.same()
	k.closed()
	if !slices.Equal(slices.Collect(all), should) {
		t.Error(slices.Collect(all))
	}
}

// P20.5: two maps share nothing.
func TestMapIsNew(t *testing.T) {
	k := stacked(t, level{10, 4, 20}, level{11, 4, 20})
	k.mixed()
	should := k.plains[0].extents(0, 20)
	one, _ := k.top().Map(0, 20*512)
	for x := range one {
		x.At, x.Len, x.Kind, x.Depth = 7, 7, 7, 7
	}
	if !slices.Equal(slices.Collect(one), should) {
		t.Error(slices.Collect(one))
	}
}

// P20.5: where packed bytes of the range cannot be unpacked there is no content to be told of.
func TestMapBroken(t *testing.T) {
	for _, bad := range bads(t) {
		for i := range 2 {
			k := stacked(t, level{10, 4, 9}, level{10, 4, 9})
			k.did(1, writes(0, 1, 2, 3, 4, 5, 6, 7, 8, 9))
			put(t, k.disks[i].Image(), 1, api.EntryPacked, bad)
			for from := range int64(9) {
				for n := range 10 - from {
					has := n > 0 && from < 4 && from+n > 2
					if _, no := extentsOf(k.top(), from*512, n*512); (no == api.ErrBroken) != has || !has && no != api.OK {
						t.Fatal(bad, i, from, n, no)
					}
				}
			}
			k.do(0, writes(2, 7, 7))
			k.do(1, writes(2, 7, 7))
			k.same(bad, i)
		}
	}
}

// P20.5: a range of nothing has no pieces.
func TestMapOfNothing(t *testing.T) {
	k := stacked(t, level{10, 4, 5}, level{10, 4, 5})
	k.mixed()
	for _, at := range []int64{0, 512, 1024, 2560} {
		if have, no := extentsOf(k.top(), at, 0); len(have) > 0 || no != api.OK {
			t.Error(at, have, no)
		}
		if b, no := k.top().Read(at, 0); len(b) > 0 || no != api.OK {
			t.Error(at, b, no)
		}
	}
}
