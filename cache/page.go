package cache

import (
	"cmp"
	"iter"
	"slices"

	"palimpsest/api"
)

// page is a page of which there is something to know. If it waits for another one, each of the two has the other one in its map.
type page struct {
	number  int64
	bytes   []byte // nil, if it is not kept
	dirty   bool   // only of one that is kept
	pending bool
	ticket  int64           // the greater, the later it was used
	slot    int             // where it stands in the line of those that are kept
	waits   map[int64]*page // for whom it waits; each is dirty or pending
	waiters map[int64]*page // who waits for it
}

func newPage(number int64) *page {
	return &page{number: number, waits: map[int64]*page{}, waiters: map[int64]*page{}}
}

// kept tells whether the page is kept.
func (p *page) kept() bool { return p.bytes != nil }

// unsettled tells whether something of the page may not last as yet: then it may be waited for.
func (p *page) unsettled() bool { return p.dirty || p.pending }

// waitFor lets the page wait for another one.
func (p *page) waitFor(other *page) {
	p.waits[other.number] = other
	other.waiters[p.number] = p
}

// waitForNone lets the page wait for none any more.
func (p *page) waitForNone() {
	for _, other := range p.waits {
		delete(other.waiters, p.number)
	}
	clear(p.waits)
}

// leadsTo tells whether the page waits for another one, by one step or several.
func (p *page) leadsTo(other *page) bool {
	// This spares the search where rows of pages grow at their beginning.
	if len(other.waiters) == 0 {
		return false
	}
	found := false
	seen := map[int64]struct{}{}
	var down func(from *page)
	down = func(from *page) {
	search:
		for number, next := range from.waits {
			_, again := seen[number]
			switch {
			case found || next == other:
				found = true
				break search
			case !again:
				seen[number] = struct{}{}
				down(next)
			}
		}
	}
	down(p)
	return found
}

// rising is pages by their numbers.
func rising(pages iter.Seq[*page]) []*page {
	return slices.SortedFunc(pages, func(a, b *page) int { return cmp.Compare(a.number, b.number) })
}

// eachDirty does something with one page behind the other, with those that are dirty when it is their turn, till it does not go well.
func eachDirty(do func(*page) api.Errno, pages ...*page) api.Errno {
	for _, p := range pages {
		if !p.dirty {
			continue
		}
		if no := do(p); no != api.OK {
			return no
		}
	}
	return api.OK
}
