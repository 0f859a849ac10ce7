package image

import (
	"fmt"
	"strings"
	"testing"

	"palimpsest/api"
	"palimpsest/check"
	"palimpsest/head"
	"palimpsest/store"
	"palimpsest/tables"
)

// small is an image of each kind of entry, with a snapshot that shares a table and data, and a leak.
func small(t testing.TB, bits, order int) *picture {
	t.Helper()
	c := int64(1) << bits
	many := int(c / 8)
	p := drawn(t, bits, order, (c/8+6)*c, 30)
	a, b := p.data('a'), p.data('b')
	packs := p.packed('c', 'd')
	zero := api.Entry{Kind: api.EntryZero}
	own := p.table(map[int]api.Entry{0: a, 1: zero, 2: packs[0], many - 1: b})
	other := p.table(map[int]api.Entry{0: p.data('e'), 5: packs[1], 7: zero})
	p.root(p.tree(own, other))
	p.snap(p.tree(0, other))
	p.take(c)
	return p.sealed(int64(len(p.b))/c - 1)
}

// isDirty tells whether the file's head has FlagDirty.
func isDirty(t testing.TB, s *store.Store) bool {
	t.Helper()
	return read(whole(t, s)).h.Flags&api.FlagDirty != 0
}

// headless is bytes with the head's flags taken out.
func headless(t testing.TB, b []byte) []byte {
	t.Helper()
	p := read(b)
	p.h.Flags = 0
	sector, no := head.Bytes(p.h)
	want(t, no, api.OK)
	return append(sector, b[api.Sector:]...)
}

// P17.2: opened for writing, the head has FlagDirty, and that lasts; all else is as it was. Closed, it has none, and that lasts.
func TestOpenAndClose(t *testing.T) {
	for _, p := range []*picture{small(t, 9, 4), small(t, 10, 2), drawn(t, 9, 0, 0, 9).sealed()} {
		s := p.laid()
		for range 3 {
			x := open(t, s, true)
			if !isDirty(t, s) || !isDirty(t, lasting(t, s)) || s.Pending() != 0 {
				t.Fatal("not dirty")
			}
			sameBytes(t, headless(t, whole(t, s)), p.b)
			h, no := x.Head()
			if h.Flags != api.FlagDirty || no != api.OK {
				t.Fatal(h, no)
			}
			want(t, x.Close(), api.OK)
			sameBytes(t, whole(t, s), p.b)
			sameBytes(t, whole(t, lasting(t, s)), p.b)
		}
	}
}

// P17.2: opened for reading, nothing is written, nor when it is closed.
func TestOpenForReading(t *testing.T) {
	for _, flags := range []uint64{0, api.FlagDirty} {
		p := small(t, 9, 4)
		p.h.Flags = flags
		p.head()
		s := p.laid()
		unchanged(t, s, func() {
			x, y := open(t, s, false), open(t, s, false)
			if h, no := x.Head(); h != p.h || no != api.OK {
				t.Fatal(h, no)
			}
			want(t, x.Close(), api.OK)
			if h, no := y.Head(); h != p.h || no != api.OK {
				t.Fatal(h, no)
			}
			want(t, y.Close(), api.OK)
		})
	}
}

// unopened holds a refused Open against its error.
func unopened(t testing.TB, s *store.Store, file string, write bool, should api.Errno) {
	t.Helper()
	x, no := Open(s, file, write)
	if x != nil || no != should {
		t.Fatalf("opened: %v, %v; want %v", x, no, should)
	}
}

// P17.2: what cannot be opened is refused, and nothing is written.
func TestOpenRefuses(t *testing.T) {
	s := small(t, 9, 4).laid()
	for _, write := range []bool{false, true} {
		unchanged(t, s, func() {
			unopened(t, nil, name, write, api.ErrNil)
			unopened(t, &store.Store{}, name, write, api.ErrNil)
			unopened(t, nil, "", write, api.ErrNil)
			unopened(t, s, "", write, api.ErrArg)
			unopened(t, s, "a\x00", write, api.ErrArg)
			unopened(t, s, strings.Repeat("x", 65), write, api.ErrArg)
			unopened(t, s, "zz", write, api.ErrNone)
		})
		b := small(t, 9, 4).b
		for _, b := range [][]byte{nil, b[:511], make([]byte, 4096), b[1:], append([]byte("PAL2"), b[4:]...), append(make([]byte, 512), b...)} {
			s := filed(t, b)
			unchanged(t, s, func() { unopened(t, s, name, write, api.ErrHead) })
		}
	}
}

// P17.2: an image that is dirty is not opened for writing, be it broken or not; for reading it is.
func TestDirtyIsNotOpened(t *testing.T) {
	for _, broken := range []bool{false, true} {
		p := small(t, 9, 4)
		p.h.Flags = api.FlagDirty
		p.head()
		if broken {
			p.word(p.h.L1, 7)
		}
		s := p.laid()
		unchanged(t, s, func() {
			unopened(t, s, name, true, api.ErrDirty)
			open(t, s, false)
		})
	}
	s, _ := small(t, 9, 4).opened()
	unopened(t, s, name, true, api.ErrDirty)
	open(t, s, false)
	unopened(t, lasting(t, s), name, true, api.ErrDirty)
}

// bent are images with just one kind of find each.
func bent(t testing.TB) map[api.FindKind]*picture {
	t.Helper()
	list := map[api.FindKind]*picture{}
	bend := func(kind api.FindKind, how func(p *picture, q *plain)) {
		p := small(t, 9, 4)
		how(p, read(p.b))
		list[kind] = p
	}
	// What a table held is counted no more.
	less := func(q *plain, e api.Entry) {
		x, _ := q.count(e.Place / q.c)
		q.set(e.Place/q.c, x-1)
	}
	bend(api.FindLeak, func(p *picture, q *plain) {})
	bend(api.FindLow, func(p *picture, q *plain) {
		e, _ := q.entry(q.active(), 0)
		less(q, e)
	})
	bend(api.FindEntry, func(p *picture, q *plain) { p.word(int64(q.word(p.h.L1))+8*9, 4) })
	bend(api.FindPlace, func(p *picture, q *plain) {
		p.word(int64(q.word(p.h.L1))+8*9, int64(len(p.b))+2)
	})
	bend(api.FindTwice, func(p *picture, q *plain) {
		p.word(int64(q.word(p.h.L1))+8*9, p.h.L1+2)
		q.set(p.h.L1/p.c, 2)
	})
	bend(api.FindPacked, func(p *picture, q *plain) {
		e, _ := q.entry(q.active(), 2)
		p.b[e.Place] = 7
	})
	bend(api.FindList, func(p *picture, q *plain) {
		p.h.SnapsLen--
		p.head()
	})
	return list
}

// P17.2: an image with leaks alone is opened for writing; one with any other find is broken, and is opened for reading alone.
func TestBrokenIsNotOpened(t *testing.T) {
	images := bent(t)
	for kind := api.FindPlace; kind <= api.FindLeak; kind++ {
		p := images[kind]
		s := p.laid()
		r, no := check.Check(s, name)
		want(t, no, api.OK)
		found := map[api.FindKind]int{}
		for _, f := range r.Finds {
			found[f.Kind]++
		}
		if found[kind] == 0 {
			t.Fatal("not bent so", kind, r.Finds)
		}
		unchanged(t, s, func() {
			x := open(t, s, false)
			if h, no := x.Head(); h != p.h || no != api.OK {
				t.Fatal(h, no)
			}
		})
		if kind == api.FindLeak {
			open(t, s, true)
			continue
		}
		unchanged(t, s, func() { unopened(t, s, name, true, api.ErrBroken) })
	}
}

// P17.2: bitmaps are gone through as well when an image is opened for writing, and stay.
func TestOpenWithBitmaps(t *testing.T) {
	p := small(t, 9, 4)
	b, no := tables.Rows(9, api.Row{Name: "r", Gran: 16, At: p.take(512), Len: 9})
	want(t, no, api.OK)
	p.h.Bitmaps, p.h.BitmapsAt, p.h.BitmapsLen = 1, p.take(512), len(b)
	copy(p.b[p.h.BitmapsAt:], b)
	p.head()
	unopened(t, p.laid(), name, true, api.ErrBroken)
	q := read(p.b)
	q.set(p.h.BitmapsAt/512, 1)
	q.set(p.h.BitmapsAt/512-1, 1)
	s, x := p.opened()
	want(t, x.Put(0, api.Entry{}), api.OK)
	want(t, x.Close(), api.OK)
	if h := read(whole(t, s)).h; h != p.h {
		t.Fatal(h)
	}
	leaky(t, s)
}

// state holds a state against what it should be.
func state(t testing.TB, x *Image, write, dead, closed bool) {
	t.Helper()
	if w, d, c := x.State(); w != write || d != dead || c != closed {
		t.Fatal("write", w, "dead", d, "closed", c)
	}
}

// P17.2: State and Head of none, of those that are open, dead, closed.
func TestStates(t *testing.T) {
	headed := func(x *Image, should api.Head, why api.Errno) {
		t.Helper()
		if h, no := x.Head(); h != should || no != why {
			t.Fatal(h, no)
		}
	}
	for _, x := range []*Image{nil, {}} {
		state(t, x, false, false, true)
		headed(x, api.Head{}, api.ErrNil)
		want(t, x.Close(), api.ErrNil)
		want(t, x.Close(), api.ErrNil)
		state(t, x, false, false, true)
	}
	p := small(t, 9, 4)
	dirty := p.h
	dirty.Flags = api.FlagDirty

	s := p.laid()
	x := open(t, s, false)
	state(t, x, false, false, false)
	headed(x, p.h, api.OK)
	want(t, x.Close(), api.OK)
	state(t, x, false, false, true)
	headed(x, api.Head{}, api.ErrNil)
	want(t, x.Close(), api.ErrNil)

	x = open(t, s, true)
	state(t, x, true, false, false)
	headed(x, dirty, api.OK)
	headed(open(t, s, false), dirty, api.OK)
	want(t, x.Close(), api.OK)
	state(t, x, false, false, true)
	headed(x, api.Head{}, api.ErrNil)
	unchanged(t, s, func() { want(t, x.Close(), api.ErrNil) })

	x = open(t, s, true)
	feed(t, s, 0, api.Fate{Kind: api.FateFail})
	want(t, x.Flush(), api.ErrDisk)
	state(t, x, true, true, false)
	headed(x, dirty, api.OK)
	unchanged(t, s, func() { want(t, x.Close(), api.ErrDead) })
	state(t, x, false, true, true)
	headed(x, api.Head{}, api.ErrNil)
	unchanged(t, s, func() { want(t, x.Close(), api.ErrNil) })
	unopened(t, s, name, true, api.ErrDirty)
}

// P17.2: what a Write did not let last, Close does.
func TestCloseFlushes(t *testing.T) {
	s, x := small(t, 9, 4).opened()
	e, _ := x.Entry(0)
	want(t, x.Write(e.Place+9, []byte("nine")), api.OK)
	want(t, x.Close(), api.OK)
	if b := whole(t, lasting(t, s))[e.Place:]; string(b[8:14]) != "aninea" {
		t.Fatal(string(b[8:14]))
	}
}

// P17.2, P17.7: a step that fails of opening for writing: its error, and no image; the file is as it was, but for FlagDirty.
func TestOpenFails(t *testing.T) {
	p := small(t, 9, 4)
	for _, fate := range fails() {
		for k := 0; ; k++ {
			s := p.laid()
			feed(t, s, k, fate)
			x, no := Open(s, name, true)
			if unfed(s) {
				want(t, no, api.OK)
				if k < 2 {
					t.Error("few steps", k)
				}
				break
			}
			if x != nil || no != told(fate) {
				t.Fatal(x, no, k, fate)
			}
			crashes(t, s, func(n int, left *store.Store) { sameBytes(t, headless(t, whole(t, left)), p.b, k, fate, n) })
		}
	}
}

// P17.2, P17.7: a step that fails of closing: its error, and it is closed, and dead; the file is as it was to be, but for FlagDirty, which is taken off behind all else.
func TestCloseFails(t *testing.T) {
	p := small(t, 9, 4)
	for _, fate := range fails() {
		for k := 0; ; k++ {
			s, x := p.opened()
			e, _ := x.Entry(0)
			want(t, x.Write(e.Place, []byte("nine")), api.OK)
			was := headless(t, whole(t, s))
			feed(t, s, k, fate)
			no := x.Close()
			if unfed(s) {
				want(t, no, api.OK)
				if k < 3 {
					t.Error("few steps", k)
				}
				break
			}
			want(t, no, told(fate))
			state(t, x, false, true, true)
			unchanged(t, s, func() { want(t, x.Close(), api.ErrNil) })
			sameBytes(t, headless(t, whole(t, s)), was)
			crashes(t, s, func(n int, left *store.Store) {
				have := headless(t, whole(t, left))
				if !isDirty(t, left) {
					sameBytes(t, have, was, k, fate, n)
				}
				copy(have[e.Place:], "nine")
				sameBytes(t, have, was, k, fate, n)
			})
		}
	}
}

// P17.2: two images in one store have nothing to do with one another, and neither have two stores.
func TestTwoImages(t *testing.T) {
	s, _ := store.New()
	var images []*Image
	for i := range 3 {
		file := fmt.Sprint("image", i)
		want(t, Create(s, file, api.Make{Bits: 9 + i, Order: 4, Size: 4096}), api.OK)
		x, no := Open(s, file, true)
		want(t, no, api.OK)
		images = append(images, x)
	}
	for i, x := range images {
		for range i + 1 {
			_, no := x.Alloc(1)
			want(t, no, api.OK)
		}
	}
	feed(t, s, 0, api.Fate{Kind: api.FateFail})
	want(t, images[0].Flush(), api.ErrDisk)
	want(t, images[1].Flush(), api.OK)
	want(t, images[1].Close(), api.OK)
	want(t, images[2].Put(0, api.Entry{Kind: api.EntryZero}), api.OK)
	for i := range images {
		r, no := check.Check(s, fmt.Sprint("image", i))
		if no != api.OK || len(r.Finds) != i+1 || r.Broken || (r.Zero == 1) != (i == 2) {
			t.Fatal(i, no, r)
		}
	}
}
