package cache

import (
	"bytes"
	"iter"
	"slices"
	"testing"

	"palimpsest/api"
	"palimpsest/store"
)

// plain is a cache by the chapter's words, out of lists that are gone through from their beginnings.
type plain struct {
	s      *store.Store
	bits   int
	room   int
	kept   []*plainPage // by when they were used: whoever was used longest ago first
	wrote  []int64      // who is pending
	pairs  []plainPair
	counts api.CacheCounts
}

type plainPage struct {
	number int64
	bytes  []byte
	dirty  bool
}

type plainPair struct{ page, other int64 }

func newPlain(s *store.Store, bits, room int) *plain { return &plain{s: s, bits: bits, room: room} }

func (w *plain) long() int { return 1 << w.bits }

// at is where in the list a page stands, or -1.
func (w *plain) at(page int64) int {
	return slices.IndexFunc(w.kept, func(p *plainPage) bool { return p.number == page })
}

func (w *plain) dirty(page int64) bool {
	i := w.at(page)
	return i >= 0 && w.kept[i].dirty
}

func (w *plain) pending(page int64) bool { return slices.Contains(w.wrote, page) }

// allowed tells whether a page may be: all its bytes lie below the bound.
func (w *plain) allowed(page int64) bool {
	for range w.bits {
		if page < 0 || page > top {
			return false
		}
		page *= 2
	}
	return page < top
}

// waits are those that a page waits for, rising.
func (w *plain) waits(page int64) []int64 {
	var l []int64
	for _, p := range w.pairs {
		if p.page == page {
			l = append(l, p.other)
		}
	}
	slices.Sort(l)
	return l
}

// loosen ends the waiting for those that are neither dirty nor pending.
func (w *plain) loosen() {
	w.pairs = slices.DeleteFunc(w.pairs, func(p plainPair) bool { return !w.dirty(p.other) && !w.pending(p.other) })
}

func (w *plain) free(page int64) {
	w.pairs = slices.DeleteFunc(w.pairs, func(p plainPair) bool { return p.page == page })
}

// reaches are all that a page waits for, by one step or several: what is reached grows till it does no more.
func (w *plain) reaches(page int64) []int64 {
	l := []int64{page}
	for i := 0; i < len(l); i++ {
		for _, p := range w.pairs {
			if p.page == l[i] && !slices.Contains(l, p.other) {
				l = append(l, p.other)
			}
		}
	}
	return l
}

func (w *plain) flush() api.Errno {
	no := w.s.Flush("f")
	if no == api.OK {
		w.counts.Flushes++
		w.wrote = nil
		w.loosen()
	}
	return no
}

func (w *plain) back(page int64) api.Errno {
	for _, other := range w.waits(page) {
		if !w.dirty(other) {
			continue
		}
		if no := w.back(other); no != api.OK {
			return no
		}
	}
	if slices.ContainsFunc(w.waits(page), w.pending) {
		if no := w.flush(); no != api.OK {
			return no
		}
	}
	p := w.kept[w.at(page)]
	if no := w.s.Write("f", page*int64(len(p.bytes)), p.bytes); no != api.OK {
		return no
	}
	w.counts.Backs++
	p.dirty = false
	if !w.pending(page) {
		w.wrote = append(w.wrote, page)
	}
	w.free(page)
	w.loosen()
	return api.OK
}

// file is the file's bytes with noughts behind them.
func (w *plain) file(page int64) []byte {
	size, _ := w.s.Size("f")
	b, _ := w.s.Read("f", 0, int(size))
	long := int64(1) << w.bits
	b = append(b, make([]byte, max(0, (page+1)*long-size))...)
	return bytes.Clone(b[page*long : (page+1)*long])
}

func (w *plain) bring(page int64) api.Errno {
	if len(w.kept) == w.room {
		off := slices.IndexFunc(w.kept, func(p *plainPage) bool { return !p.dirty })
		if off < 0 {
			off = 0
			if no := w.back(w.kept[0].number); no != api.OK {
				return no
			}
		}
		w.kept = slices.Delete(w.kept, off, off+1)
	}
	w.counts.Loads++
	w.kept = append(w.kept, &plainPage{number: page, bytes: w.file(page)})
	return api.OK
}

func (w *plain) use(page int64, at, n int) (*plainPage, api.Errno) {
	long := 1 << w.bits
	if !w.allowed(page) || at < 0 || n < 0 || at > long || n > long || at+n > long {
		return nil, api.ErrArg
	}
	if !slices.Contains(w.s.Names(), "f") {
		return nil, api.ErrNone
	}
	if i := w.at(page); i >= 0 {
		w.counts.Hits++
		p := w.kept[i]
		w.kept = append(slices.Delete(w.kept, i, i+1), p)
		return p, api.OK
	}
	if no := w.bring(page); no != api.OK {
		return nil, no
	}
	return w.kept[len(w.kept)-1], api.OK
}

func (w *plain) Read(page int64, at, n int) ([]byte, api.Errno) {
	p, no := w.use(page, at, n)
	if no != api.OK {
		return nil, no
	}
	return bytes.Clone(p.bytes[at : at+n]), api.OK
}

func (w *plain) Write(page int64, at int, b []byte) api.Errno {
	p, no := w.use(page, at, len(b))
	for i, x := range b {
		if no == api.OK {
			p.bytes[at+i], p.dirty = x, true
		}
	}
	return no
}

func (w *plain) After(page, other int64) api.Errno {
	switch {
	case !w.allowed(page) || !w.allowed(other):
		return api.ErrArg
	case slices.Contains(w.reaches(other), page):
		return api.ErrLoop
	}
	if !slices.Contains(w.waits(page), other) {
		w.pairs = append(w.pairs, plainPair{page, other})
	}
	w.loosen()
	return api.OK
}

func (w *plain) Back(page int64) api.Errno {
	switch {
	case !w.allowed(page):
		return api.ErrArg
	case w.at(page) < 0:
		return api.ErrNone
	case w.dirty(page):
		return w.back(page)
	}
	return api.OK
}

func (w *plain) Flush() api.Errno {
	for _, page := range gathered(w.Pages()) {
		if w.dirty(page) {
			if no := w.back(page); no != api.OK {
				return no
			}
		}
	}
	return w.flush()
}

func (w *plain) Drop(page int64) api.Errno {
	switch {
	case !w.allowed(page):
		return api.ErrArg
	case w.at(page) < 0:
		return api.ErrNone
	}
	w.kept = slices.Delete(w.kept, w.at(page), w.at(page)+1)
	w.free(page)
	w.loosen()
	return api.OK
}

func (w *plain) State(page int64) (api.PageState, api.Errno) {
	if !w.allowed(page) {
		return api.PageState{}, api.ErrArg
	}
	return api.PageState{Dirty: w.dirty(page), Pending: w.pending(page), Waits: w.waits(page)}, api.OK
}

func (w *plain) Pages() iter.Seq[int64] {
	var l []int64
	for _, p := range w.kept {
		l = append(l, p.number)
	}
	slices.Sort(l)
	return slices.Values(l)
}

func (w *plain) Counts() api.CacheCounts { return w.counts }

// alike holds a cache, and its store, against the words.
func alike(t *testing.T, c *Cache, w *plain, said string) {
	t.Helper()
	if have, should := told(t, c), told(t, w); have != should {
		t.Fatalf("%s: pages stand %q, want %q", said, have, should)
	}
	if c.Counts() != w.counts {
		t.Fatalf("%s: counts %v, want %v", said, c.Counts(), w.counts)
	}
	done, left := c.store.Steps()
	wantDone, wantLeft := w.s.Steps()
	if done != wantDone || left != wantLeft || !c.store.Same(w.s) {
		t.Fatalf("%s: the stores differ, with %d steps, want %d", said, done, wantDone)
	}
}

// lean holds what is kept of a cache against what is needed: nothing is known of a page that is neither kept, nor pending, nor waits, and who waits is known from either side.
func lean(t *testing.T, c *Cache, w *plain, said string) {
	t.Helper()
	pairs := 0
	for number, p := range c.pages {
		if p.number != number || !p.kept() && !p.pending && len(p.waits) == 0 {
			t.Fatalf("%s: page %d is known for nothing", said, number)
		}
		pairs += len(p.waiters)
		for n, other := range p.waits {
			if c.pages[n] != other || other.waiters[number] != p {
				t.Fatalf("%s: page %d waits for %d, which does not know it", said, number, n)
			}
		}
	}
	if pairs != len(w.pairs) || len(c.pending) != len(w.wrote) || c.kept.Len() != len(w.kept) {
		t.Fatalf("%s: %d pairs, %d pending, %d kept", said, pairs, len(c.pending), c.kept.Len())
	}
}
