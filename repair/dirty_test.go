package repair

import (
	"fmt"
	"testing"

	"palimpsest/api"
	"palimpsest/check"
	"palimpsest/image"
	"palimpsest/store"
)

// P18.1: an image that is dirty, with nothing else, with leaks, with counts that are too low, with both.
func TestDirty(t *testing.T) {
	for order := range 7 {
		p := full(t, 9, order)
		for _, row := range []struct {
			pairs []uint64
			told  api.Fixed
		}{
			{nil, api.Fixed{}},
			{[]uint64{30, 1}, api.Fixed{Leaks: 1}},
			{[]uint64{30, 1, 31, 1, 33, 1}, api.Fixed{Leaks: 3}},
			{[]uint64{0, 0}, api.Fixed{Low: 1}},
			{[]uint64{1, 0, 2, 0}, api.Fixed{Low: 2}},
			{[]uint64{1, 0, 2, 0, 30, 1}, api.Fixed{Low: 2, Leaks: 1}},
		} {
			tells(t, p.bent(row.pairs...), row.told)
			row.told.Dirty = true
			s := tells(t, p.bent(row.pairs...).dirty(), row.told)
			sameBytes(t, whole(t, s), p.b)
		}
	}
}

// P18.1: the rest of the first cluster, which is not looked at, stays as it is.
func TestBehindTheHeadsSector(t *testing.T) {
	p := full(t, 11, 4).dirty()
	for at := 512; at < 2048; at++ {
		p.b[at] = byte(at*7 + 1)
	}
	tells(t, p, api.Fixed{Dirty: true})
	for _, dirty := range []bool{true, false} {
		s := p.laid()
		want(t, Mark(s, name, dirty), api.OK)
		sameBytes(t, whole(t, s)[512:], p.b[512:])
	}
}

// guestBytes is what an image's guest clusters say, as far as they are data.
func guestBytes(t testing.TB, s *store.Store) map[int64]string {
	t.Helper()
	x, no := image.Open(s, name, false)
	want(t, no, api.OK)
	all := map[int64]string{}
	for k, e := range x.All() {
		b := []byte{}
		if e.Kind == api.EntryData {
			b, no = x.Read(e.Place, 512)
			want(t, no, api.OK)
		}
		all[k] = fmt.Sprint(e.Kind, b)
	}
	return all
}

// Examples: dirty, behind a crash: whatever the crash leaves of a script of layer 17, with a fault at each place, is mended, keeps what the guest has, and is opened again.
func TestBehindCrashes(t *testing.T) {
	base, _ := store.New()
	want(t, base.Create("another"), api.OK)
	want(t, image.Create(base, name, api.Make{Bits: 9, Order: 4, Size: 100 * 512}), api.OK)
	dirty := 0
	for k, left := 0, false; !left; k++ {
		s := base.Copy()
		feed(t, s, k, api.Fate{Kind: api.FateFail, Keep: k % 3})
		guestScript(s)
		left = unfed(s)
		crashes(t, s, func(_ int, c *store.Store) {
			before := guestBytes(t, c)
			f, no := mended(t, c)
			if no != api.OK || f.Low > 0 {
				t.Fatal(k, f, no)
			}
			if f.Dirty {
				dirty++
			}
			if now := guestBytes(t, c); fmt.Sprint(now) != fmt.Sprint(before) {
				t.Fatal("content has changed", now, before)
			}
			x, no := image.Open(c, name, true)
			want(t, no, api.OK)
			want(t, x.Close(), api.OK)
		})
	}
	if dirty < 30 {
		t.Error(dirty)
	}
}

// guestScript puts some entries, up to a step that fails.
func guestScript(s *store.Store) {
	x, no := image.Open(s, name, true)
	for k := int64(0); no == api.OK && k < 3; k++ {
		var at int64
		if at, no = x.Alloc(2); no == api.OK {
			x.Write(at, []byte("some bytes of a guest"))
			no = x.Put(k%2*64, api.Entry{Kind: api.EntryData, Place: at})
		}
	}
	x.Close()
}

// P18.3: an image that was not flushed is mended as it is read, and that lasts.
func TestWhatIsRead(t *testing.T) {
	p := full(t, 9, 4)
	for _, bent := range []*picture{p.bent(30, 1), p.bent(0, 0), p.bent(0, 0, 30, 1).dirty(), p.dirty(), p} {
		s := filed(t, full(t, 9, 4).bent(2, 0, 31, 7).b)
		want(t, s.Write(name, 0, bent.b), api.OK)
		if _, no := mended(t, s); no != api.OK {
			t.Fatal(no)
		}
		sameBytes(t, whole(t, lasting(t, s)), p.b)
		r, no := check.Check(lasting(t, s), name)
		if len(r.Finds) > 0 || no != api.OK {
			t.Fatal(r, no)
		}
	}
}
