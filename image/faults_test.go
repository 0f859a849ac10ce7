package image

import (
	"bytes"
	"fmt"
	"slices"
	"testing"

	"palimpsest/api"
	"palimpsest/store"
)

// deed is a call that writes: what it puts, if it puts an entry; does it lower counts that held something?
type deed struct {
	said   string
	do     func(x *Image) api.Errno
	k      int64
	puts   *api.Entry
	lowers bool
}

// acted is an image for calls that write: tables of the active tree's own, ones that a snapshot shares, missing ones; a cluster that is counted for what is put.
func acted(t testing.TB, bits, order int) (*picture, int64) {
	t.Helper()
	c := int64(1) << bits
	p := drawn(t, bits, order, c*c/8*4, 30)
	a, packs := p.data('a'), p.packed('b', 'c')
	alone := p.table(map[int]api.Entry{0: a, 1: packs[0], 2: {Kind: api.EntryZero}})
	shared := p.table(map[int]api.Entry{0: a, 1: packs[1], 2: {Kind: api.EntryZero}, 3: p.data('d')})
	p.root(p.tree(alone, shared, 0, shared))
	p.snap(p.tree(shared))
	spare := p.take(c)
	return p.sealed(spare/c, spare/c, p.h.L1/c), spare
}

// deeds are calls that write, of all sorts.
func deeds(p *picture, spare int64) []deed {
	many := p.c / 8
	put := func(k int64, e api.Entry) deed {
		return deed{fmt.Sprint("Put ", k, e), func(x *Image) api.Errno { return x.Put(k, e) }, k, &e, false}
	}
	call := func(said string, do func(x *Image) api.Errno) deed { return deed{said: said, do: do} }
	zero, data := api.Entry{Kind: api.EntryZero}, api.Entry{Kind: api.EntryData, Place: spare}
	list := []deed{
		put(0, zero), put(0, data), put(1, api.Entry{}), put(2, api.Entry{}), put(3, zero), put(9, data),
		put(many, zero), put(many+1, data), put(many+2, api.Entry{}), put(many+9, data),
		put(2*many, data), put(2*many+5, zero), put(3*many, data), put(3*many+3, api.Entry{}),
		call("Alloc", func(x *Image) api.Errno { _, no := x.Alloc(1); return no }),
		call("Alloc 3", func(x *Image) api.Errno { _, no := x.Alloc(3); return no }),
		call("Share", func(x *Image) api.Errno { return x.Share(spare + 9) }),
		call("Save", func(x *Image) api.Errno { _, no := x.Save([]byte("saved")); return no }),
		call("Save none", func(x *Image) api.Errno { _, no := x.Save(nil); return no }),
		call("Save more", func(x *Image) api.Errno { _, no := x.Save(bytes.Repeat([]byte{9}, int(2*p.c+1))); return no }),
		call("Hold", func(x *Image) api.Errno { return x.Hold(p.h.L1, p.h.L1Len, 1) }),
		call("Hold the other", func(x *Image) api.Errno { return x.Hold(p.snaps[0].L1, 1, 1) }),
		call("Write", func(x *Image) api.Errno { return x.Write(spare+5, bytes.Repeat([]byte{9}, int(p.c-5))) }),
		call("Flush", func(x *Image) api.Errno { return x.Flush() }),
		call("Switch", func(x *Image) api.Errno { return x.Switch(p.switched()) }),
		{said: "Free", lowers: true, do: func(x *Image) api.Errno { return x.Free(spare, 1) }},
		{said: "Hold no more", lowers: true, do: func(x *Image) api.Errno { return x.Hold(p.snaps[0].L1, 1, -1) }},
	}
	return list
}

// switched is another head that the image may have.
func (p *picture) switched() api.Head {
	h := p.h
	h.Backing, h.Size = "another", h.Size-512
	return h
}

// kept tells what is wrong of an image behind a call that failed: all trees' entries are as they were, but for one that may be as it was put; the head is as it was, or as it was to be.
func (p *picture) kept(before *plain, d deed, b []byte) string {
	now := read(b)
	asked := p.switched()
	asked.Flags = api.FlagDirty
	if now.h != before.h && (d.said != "Switch" || now.h != asked) {
		return fmt.Sprint("head ", now.h)
	}
	for n, r := range before.roots() {
		have, should := now.entries(r), before.entries(r)
		if n == 0 && d.puts != nil && have != nil && have[d.k] == *d.puts {
			should[d.k] = *d.puts
		}
		if !slices.Equal(have, should) {
			return fmt.Sprint("entries of the tree ", n)
		}
	}
	return ""
}

// P17.7, P17.8: a step that fails at each place of each call: its error, and the image is dead; nothing but leaks is found then, nor in whatever a crash leaves, and each entry is as it was, or as it was put.
func TestFaultAtEachPlace(t *testing.T) {
	for _, c := range []struct{ bits, order int }{{9, 4}, {9, 6}, {10, 3}} {
		t.Run(fmt.Sprint(c), func(t *testing.T) {
			t.Parallel()
			p, spare := acted(t, c.bits, c.order)
			base := p.laid()
			leaky(t, base)
			for _, d := range deeds(p, spare) {
				for _, fate := range fails() {
					if n := failed(t, p, base, d, fate); n < 1 {
						t.Fatal("no step", d.said)
					}
				}
			}
		})
	}
}

// failed lets each step of a call fail, and tells how many there are.
func failed(t testing.TB, p *picture, base *store.Store, d deed, fate api.Fate) int {
	t.Helper()
	for k := 0; ; k++ {
		s := base.Copy()
		x := open(t, s, true)
		before := read(whole(t, s))
		feed(t, s, k, fate)
		no := d.do(x)
		if unfed(s) {
			want(t, no, api.OK)
			state(t, x, true, false, false)
			return k
		}
		said := fmt.Sprint(d.said, ", step ", k, ", fate ", fate)
		if no != told(fate) {
			t.Fatalf("%s: %v", said, no)
		}
		look := func(left *store.Store, said ...any) {
			if wrong := p.kept(before, d, whole(t, left)); wrong != "" {
				t.Fatal(said, wrong)
			}
			if !d.lowers {
				leaky(t, left, said...)
			}
		}
		look(s, said)
		crashes(t, s, func(n int, left *store.Store) { look(left, said, ", crash ", n) })
		dead(t, s, x, p)
	}
}

// P17.7: what is answered beside a step that failed is nothing: no place.
func TestNothingBesideAnError(t *testing.T) {
	base := small(t, 9, 4).laid()
	for k := range 6 {
		for _, call := range []func(x *Image) (int64, api.Errno){
			func(x *Image) (int64, api.Errno) { return x.Alloc(2) },
			func(x *Image) (int64, api.Errno) { return x.Save([]byte("some")) },
		} {
			s := base.Copy()
			x := open(t, s, true)
			feed(t, s, k, api.Fate{Kind: api.FateFull})
			place, no := call(x)
			if unfed(s) != (no == api.OK) || (place > 0) != (no == api.OK) {
				t.Error(k, place, no)
			}
		}
	}
}

// P17.7: it is a step that makes an image dead, and not an error that is told alike: no room is no step.
func TestNoRoomIsNoStep(t *testing.T) {
	s, x := full(t, drawn(t, 9, 6, 512, 60).sealed())
	unchanged(t, s, func() {
		if _, no := x.Alloc(1); no != api.ErrFull {
			t.Error(no)
		}
		if _, no := x.Save(nil); no != api.ErrFull {
			t.Error(no)
		}
		want(t, x.Put(0, api.Entry{Kind: api.EntryZero}), api.ErrFull)
	})
	state(t, x, true, false, false)
	want(t, x.Flush(), api.OK)
	feed(t, s, 0, api.Fate{Kind: api.FateFull})
	want(t, x.Flush(), api.ErrFull)
	state(t, x, true, true, false)
}

// P17.7: a step that fails of one image does not make another one dead, nor one that is open for reading.
func TestOthersLive(t *testing.T) {
	s, x := small(t, 9, 4).opened()
	want(t, Create(s, "b", api.Make{Bits: 9, Order: 4, Size: 512}), api.OK)
	b, no := Open(s, "b", true)
	want(t, no, api.OK)
	y := open(t, s, false)
	feed(t, s, 0, api.Fate{Kind: api.FateFail})
	want(t, x.Put(0, api.Entry{}), api.ErrDisk)
	state(t, y, false, false, false)
	state(t, b, true, false, false)
	want(t, b.Put(0, api.Entry{Kind: api.EntryZero}), api.OK)
	want(t, y.Close(), api.OK)
	want(t, b.Close(), api.OK)
}
