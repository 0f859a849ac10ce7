package image

import (
	"math"
	"testing"

	"palimpsest/api"
	"palimpsest/store"
)

// writing are all calls that write, with arguments that may be, and with ones that may not be (none: there are none such).
type writing struct {
	said      string
	good, bad func(x *Image) api.Errno
}

// writers are all calls that write, of an image made by small.
func writers(p *picture) []writing {
	h := p.h
	bent := h
	bent.Order++
	zero := api.Entry{Kind: api.EntryZero}
	place := func(_ int64, no api.Errno) api.Errno { return no }
	return []writing{
		{"Put", func(x *Image) api.Errno { return x.Put(9, zero) }, func(x *Image) api.Errno { return x.Put(-1, api.Entry{Kind: 9}) }},
		{"Write", func(x *Image) api.Errno { return x.Write(0, p.b[:1]) }, nil},
		{"Flush", func(x *Image) api.Errno { return x.Flush() }, nil},
		{"Alloc", func(x *Image) api.Errno { return place(x.Alloc(1)) }, func(x *Image) api.Errno { return place(x.Alloc(0)) }},
		{"Alloc", func(x *Image) api.Errno { return place(x.Alloc(3)) }, func(x *Image) api.Errno { return place(x.Alloc(1<<20 + 1)) }},
		{"Free", func(x *Image) api.Errno { return x.Free(p.leak(), 1) }, func(x *Image) api.Errno { return x.Free(-1, 0) }},
		{"Share", func(x *Image) api.Errno { return x.Share(0) }, nil},
		{"Save", func(x *Image) api.Errno { return place(x.Save(p.b[:600])) }, nil},
		{"Hold", func(x *Image) api.Errno { return x.Hold(h.L1, h.L1Len, 1) }, func(x *Image) api.Errno { return x.Hold(-1, 1, 0) }},
		{"Hold", func(x *Image) api.Errno { return x.Hold(h.L1, 0, -1) }, func(x *Image) api.Errno { return x.Hold(0, -1, 1) }},
		{"Switch", func(x *Image) api.Errno { return x.Switch(h) }, func(x *Image) api.Errno { return x.Switch(bent) }},
	}
}

// leak is the place of the cluster that small makes a leak.
func (p *picture) leak() int64 { return int64(len(p.b)) - p.c }

// wrong are calls whose places are not there: what they are refused for comes behind ErrArg and ErrDead.
func wrong() []func(x *Image) api.Errno {
	return []func(x *Image) api.Errno{
		func(x *Image) api.Errno { return x.Put(-1, api.Entry{}) },
		func(x *Image) api.Errno { return x.Put(0, api.Entry{Kind: api.EntryData, Place: 1 << 20}) },
		func(x *Image) api.Errno { return x.Write(-1, nil) },
		func(x *Image) api.Errno { return x.Write(1<<20, nil) },
		func(x *Image) api.Errno { return x.Free(1, 1) },
		func(x *Image) api.Errno { return x.Free(math.MinInt64, 1) },
		func(x *Image) api.Errno { return x.Share(-1) },
		func(x *Image) api.Errno { return x.Hold(7, 1, -1) },
	}
}

// P17: of none, of a zero one, of a closed one each call answers ErrNil, ahead of all else, and nothing.
func TestNone(t *testing.T) {
	p := small(t, 9, 4)
	s := p.laid()
	closed := open(t, s, false)
	want(t, closed.Close(), api.OK)
	wrote := open(t, s, true)
	want(t, wrote.Close(), api.OK)
	died := open(t, s, true)
	feed(t, s, 0, api.Fate{Kind: api.FateFail})
	want(t, died.Flush(), api.ErrDisk)
	want(t, died.Close(), api.ErrDead)
	for i, x := range []*Image{nil, {}, closed, wrote, died} {
		unchanged(t, s, func() {
			for _, w := range writers(p) {
				for _, call := range []func(*Image) api.Errno{w.good, w.bad} {
					if call == nil {
						continue
					}
					if no := call(x); no != api.ErrNil {
						t.Error(i, w.said, no)
					}
				}
			}
			for _, call := range wrong() {
				want(t, call(x), api.ErrNil)
			}
			for _, place := range []int64{-1, 0, 512, math.MaxInt64, math.MinInt64} {
				if e, no := x.Entry(place); e != (api.Entry{}) || no != api.ErrNil {
					t.Error(i, e, no)
				}
				uncounted(t, x, place, api.ErrNil)
				unread(t, x, place, int(place), api.ErrNil)
				if at, no := x.Save(nil); at != 0 || no != api.ErrNil {
					t.Error(i, at, no)
				}
				if at, no := x.Alloc(int(place)); at != 0 || no != api.ErrNil {
					t.Error(i, at, no)
				}
			}
			if h, no := x.Head(); h != (api.Head{}) || no != api.ErrNil {
				t.Error(i, h, no)
			}
			if len(gathered(x)) != 0 {
				t.Error(i, "entries")
			}
			want(t, x.Close(), api.ErrNil)
			want(t, x.Switch(api.Head{}), api.ErrNil)
		})
		if _, _, is := x.State(); !is {
			t.Error(i, "not closed")
		}
	}
}

// P17: of an image that is open for reading alone all calls that write are refused, and nothing changes.
func TestForReadingAlone(t *testing.T) {
	p := small(t, 9, 4)
	s := p.laid()
	x := open(t, s, false)
	unchanged(t, s, func() {
		for _, w := range writers(p) {
			want(t, w.good(x), api.ErrArg)
			if w.bad != nil {
				want(t, w.bad(x), api.ErrArg)
			}
		}
		for _, call := range wrong() {
			want(t, call(x), api.ErrArg)
		}
	})
	state(t, x, false, false, false)
	want(t, x.Close(), api.OK)
}

// P17: all the same calls go, where the image is open for writing, and none of them makes it dead; what may not be is refused.
func TestForWriting(t *testing.T) {
	p := small(t, 9, 4)
	for _, w := range writers(p) {
		s, x := p.opened()
		want(t, w.good(x), api.OK)
		if w.bad != nil {
			unchanged(t, s, func() { want(t, w.bad(x), api.ErrArg) })
		}
		state(t, x, true, false, false)
		want(t, x.Close(), api.OK)
	}
	s, x := p.opened()
	unchanged(t, s, func() {
		for _, call := range wrong() {
			if no := call(x); no != api.ErrRange && no != api.ErrBroken {
				t.Error(no)
			}
		}
	})
	state(t, x, true, false, false)
}

// readable holds all that a dead image holds against the plain way.
func readable(t testing.TB, s *store.Store, x *Image) {
	t.Helper()
	b := whole(t, s)
	q := read(b)
	for k := range int64(q.h.L1Len) * q.many() {
		entered(t, x, q, k)
	}
	alled(t, x, q)
	for place := int64(0); place < int64(len(b)); place += q.c {
		should, _ := q.count(place / q.c)
		counts(t, x, place, should)
	}
	have, no := x.Read(0, len(b))
	want(t, no, api.OK)
	sameBytes(t, have, b)
	if h, no := x.Head(); h != q.h || no != api.OK {
		t.Fatal(h, no)
	}
}

// dead holds an image that is dead against what it promises: all can be read, nothing is written any more, what may not be is told ahead of that.
func dead(t testing.TB, s *store.Store, x *Image, p *picture) {
	t.Helper()
	state(t, x, true, true, false)
	unchanged(t, s, func() {
		for _, w := range writers(p) {
			want(t, w.good(x), api.ErrDead)
			if w.bad != nil {
				want(t, w.bad(x), api.ErrArg)
			}
		}
		for _, call := range wrong() {
			want(t, call(x), api.ErrDead)
		}
		readable(t, s, x)
		want(t, x.Close(), api.ErrDead)
		state(t, x, false, true, true)
		want(t, x.Close(), api.ErrNil)
	})
	if !isDirty(t, s) || !isDirty(t, lasting(t, s)) {
		t.Fatal("not dirty")
	}
	unopened(t, s, name, true, api.ErrDirty)
}

// P17: of a file that is gone each call tells the store's error, behind ErrArg and ErrDead.
func TestGone(t *testing.T) {
	p := small(t, 9, 4)
	s, x := p.opened()
	want(t, s.Remove(name), api.OK)
	for _, w := range writers(p) {
		want(t, w.good(x), api.ErrNone)
		if w.bad != nil {
			want(t, w.bad(x), api.ErrArg)
		}
	}
	for i, call := range wrong() {
		no := call(x)
		if i == 4 || i == 5 { // Free tells a place that is no cluster's first, as layer 16 does
			want(t, no, api.ErrRange)
			continue
		}
		want(t, no, api.ErrNone)
	}
	uncounted(t, x, -1, api.ErrNone)
	unread(t, x, -1, 1, api.ErrNone)
	state(t, x, true, false, false)
	want(t, x.Close(), api.ErrNone)
	state(t, x, false, false, true)
}
