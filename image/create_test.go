package image

import (
	"fmt"
	"strings"
	"testing"

	"palimpsest/api"
	"palimpsest/head"
	"palimpsest/store"
)

// news are images of all bits and orders, of sizes about all that matters.
func news() []api.Make {
	var list []api.Make
	for bits := 9; bits <= 16; bits++ {
		c := int64(1) << bits
		for order := range 7 {
			for _, size := range []int64{0, 512, c, c + 512, c * c / 8, c*c/8 + 512, api.MaxGuest - 512, api.MaxGuest} {
				if size <= api.MaxGuest {
					list = append(list, api.Make{Bits: bits, Order: order, Size: size})
				}
			}
		}
	}
	return list
}

// P17.1: a new image is as it was asked for, all of it lasts, check finds nothing, all entries are nothing, and there is room.
func TestCreate(t *testing.T) {
	for _, m := range news() {
		s := created(t, m)
		if s.Pending() != 0 {
			t.Fatal("not all lasts", m)
		}
		b := whole(t, s)
		h, no := head.Read(b)
		guest := (m.Size + 1<<m.Bits - 1) >> m.Bits
		if no != api.OK || h.Bits != m.Bits || h.Order != m.Order || h.Size != m.Size || h.Flags != 0 || h.Snaps != 0 || h.Bitmaps != 0 || h.Backing != "" {
			t.Fatal(no, h, m)
		}
		if many := int64(1) << m.Bits / 8; int64(h.L1Len) != (guest+many-1)/many {
			t.Fatal("entries of the L1 table", h.L1Len, m)
		}
		clean(t, s, m)
		p := read(b)
		if p.room() < 4*guest+1024 {
			t.Fatal("no room", p.room(), m)
		}
		if free := len(changed(&plain{make([]byte, len(b)), h, p.c}, p)); free > 1 {
			t.Fatal("more than the head and the counts", free, m)
		}
		if should := p.holders(); counted(&plain{make([]byte, len(b)), h, p.c}, p, nil, nil) == "" || len(should) != len(b)>>m.Bits {
			t.Fatal("not all clusters have a holder", len(should), m)
		}
	}
}

// P17.1: all entries of a new image are nothing, by Entry and by All.
func TestNewHasNothing(t *testing.T) {
	for _, m := range []api.Make{{Bits: 9, Order: 4, Size: 1024}, {Bits: 9, Order: 0, Size: 66 * 512}, {Bits: 10, Order: 6, Size: 512}, {Bits: 9, Size: 0}} {
		x := open(t, created(t, m), false)
		h, no := x.Head()
		want(t, no, api.OK)
		for k := range int64(h.L1Len) << m.Bits / 8 {
			if e, no := x.Entry(k); e != (api.Entry{}) || no != api.OK {
				t.Fatal(k, e, no)
			}
		}
		for k, e := range x.All() {
			t.Fatal(k, e)
		}
	}
}

// P17.1: there is room: so many clusters can be taken, in runs as long as a block tells of.
func TestRoomIsThere(t *testing.T) {
	for _, m := range []api.Make{{Bits: 9, Order: 6, Size: 512}, {Bits: 9, Order: 3, Size: 1000 * 512}, {Bits: 9, Order: 6, Size: 5000 * 512}, {Bits: 10, Order: 0, Size: 2048}} {
		s := created(t, m)
		x := open(t, s, true)
		per := read(whole(t, s)).per()
		for taken := int64(0); taken < 4*(m.Size>>m.Bits)+1024-2*per; taken += per - 1 {
			if _, no := x.Alloc(int(per - 1)); no != api.OK {
				t.Fatal("no room", taken, no, m)
			}
		}
		leaky(t, s)
	}
}

// P17.1: the backing's name is kept; of no bytes there is none.
func TestCreateOverBacking(t *testing.T) {
	for _, backing := range []string{"", "b", "f", strings.Repeat("x", 64), "\xff a"} {
		x := open(t, created(t, api.Make{Bits: 9, Order: 4, Size: 512, Backing: backing}), false)
		if h, no := x.Head(); h.Backing != backing || no != api.OK {
			t.Error(h, no)
		}
	}
}

// P17.1: what may not be made is refused, and changes nothing.
func TestCreateRefuses(t *testing.T) {
	good := api.Make{Bits: 9, Order: 4, Size: 1024}
	s := created(t, good)
	unchanged(t, s, func() {
		for _, m := range []api.Make{
			{Bits: 8}, {Bits: 17}, {Bits: 0}, {Bits: -9}, {Bits: 1 << 40}, {Bits: -1 << 63},
			{Bits: 9, Order: -1}, {Bits: 9, Order: 7}, {Bits: 9, Order: 1<<63 - 1},
			{Bits: 9, Size: -512}, {Bits: 9, Size: 1}, {Bits: 9, Size: 511}, {Bits: 9, Size: 513}, {Bits: 9, Size: api.MaxGuest + 512}, {Bits: 9, Size: 1<<63 - 512}, {Bits: 9, Size: -1 << 63},
			{Bits: 9, Backing: "a\x00"}, {Bits: 9, Backing: "\x00"}, {Bits: 9, Backing: strings.Repeat("x", 65)},
		} {
			want(t, Create(s, "b", m), api.ErrArg)
			want(t, Create(s, name, m), api.ErrArg)
			want(t, Create(nil, name, m), api.ErrNil)
			want(t, Create(&store.Store{}, name, m), api.ErrNil)
		}
		for _, n := range []string{"", "a\x00b", strings.Repeat("x", 65)} {
			want(t, Create(s, n, good), api.ErrArg)
			want(t, Create(nil, n, good), api.ErrNil)
		}
		want(t, Create(s, name, good), api.ErrThere)
		want(t, Create(nil, name, good), api.ErrNil)
		want(t, Create(&store.Store{}, name, good), api.ErrNil)
	})
	for _, bits := range []int{9, 16} {
		want(t, Create(s, fmt.Sprint("bits", bits), api.Make{Bits: bits}), api.OK)
	}
	for _, order := range []int{0, 6} {
		want(t, Create(s, fmt.Sprint("order", order), api.Make{Bits: 9, Order: order, Size: api.MaxGuest}), api.OK)
	}
}

// P17.1: a file that is there stays as it is, whatever it holds.
func TestCreateOverAFile(t *testing.T) {
	for _, b := range [][]byte{nil, []byte("some bytes"), make([]byte, 4096)} {
		s := filed(t, b)
		unchanged(t, s, func() { want(t, Create(s, name, api.Make{Bits: 9}), api.ErrThere) })
	}
	s, _ := store.New()
	for i := range 256 {
		want(t, s.Create(fmt.Sprint(i)), api.OK)
	}
	unchanged(t, s, func() { want(t, Create(s, name, api.Make{Bits: 9}), api.ErrFull) })
}

// noneOrWhole tells of what was left of a Create: no image, or one of which check finds nothing, that is as it was asked for.
func noneOrWhole(t *testing.T, s *store.Store, m api.Make, said ...any) {
	t.Helper()
	x, no := Open(s, name, false)
	switch no {
	case api.ErrNone, api.ErrHead:
		return
	case api.OK:
	default:
		t.Fatal(no, said)
	}
	clean(t, s, said...)
	if h, _ := x.Head(); h.Size != m.Size || h.Bits != m.Bits || h.Order != m.Order || h.Flags != 0 {
		t.Fatal(h, said)
	}
	for k, e := range x.All() {
		t.Fatal(k, e, said)
	}
}

// P17.1: whatever step fails of making an image, and whatever a crash leaves then, there is none, or the whole one. Taking away what was made may fail, too.
func TestCreateFails(t *testing.T) {
	m := api.Make{Bits: 9, Order: 4, Size: 65 * 512}
	most := 0
	for _, fate := range fails() {
		for _, again := range [][]api.Fate{nil, {{Kind: api.FateFail}}} {
			for k := 0; ; k++ {
				s, _ := store.New()
				feed(t, s, k, append([]api.Fate{fate}, again...)...)
				no := Create(s, name, m)
				if steps(s) == k {
					want(t, no, api.OK)
					most = max(most, k)
					break
				}
				want(t, no, told(fate))
				noneOrWhole(t, s, m, k, fate)
				crashes(t, s, func(n int, left *store.Store) { noneOrWhole(t, left, m, k, fate, n) })
				if again == nil && len(s.Names()) > 0 {
					t.Fatal("what was left was not taken away", k, fate)
				}
				if again == nil {
					want(t, Create(s, name, m), api.OK)
					clean(t, s)
				}
			}
		}
	}
	if most < 4 {
		t.Error("few steps", most)
	}
}

// P17.1: whatever a crash leaves between the steps of making an image; the steps behind the one that fails are none here, so a crash comes ahead of each.
func TestCreateAndCrashes(t *testing.T) {
	whole := 0
	for k := range 8 {
		s, _ := store.New()
		feed(t, s, k, api.Fate{Kind: api.FateFail, Keep: 99}, api.Fate{Kind: api.FateFail})
		Create(s, name, api.Make{Bits: 9, Order: 6, Size: 512})
		crashes(t, s, func(n int, left *store.Store) {
			noneOrWhole(t, left, api.Make{Bits: 9, Order: 6, Size: 512}, k, n)
			if _, no := Open(left, name, true); no == api.OK {
				whole++
			}
		})
	}
	if whole < 2 {
		t.Error("never a whole one", whole)
	}
}
