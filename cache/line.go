package cache

import "container/heap"

// line is the pages that are kept, in a heap (container/heap): whoever is let go next is at its top.
type line struct{ all []*page }

// Len tells how many pages there are.
func (l *line) Len() int { return len(l.all) }

// Less tells which of two is let go first: one that is not dirty ahead of one that is, else the one that was used longer ago.
func (l *line) Less(i, j int) bool {
	a, b := l.all[i], l.all[j]
	if a.dirty != b.dirty {
		return b.dirty
	}
	return a.ticket < b.ticket
}

// Swap lets two change their slots.
func (l *line) Swap(i, j int) {
	l.all[i], l.all[j] = l.all[j], l.all[i]
	l.all[i].slot, l.all[j].slot = i, j
}

// Push puts a page behind all others.
func (l *line) Push(x any) {
	p := x.(*page)
	p.slot = len(l.all)
	l.all = append(l.all, p)
}

// Pop takes off the one behind all others.
func (l *line) Pop() any {
	last := len(l.all) - 1
	p := l.all[last]
	// What is left in the slot would be kept for as long as the line is.
	l.all[last] = nil
	l.all = l.all[:last]
	return p
}

// first is the page at the top; there must be one.
func (l *line) first() *page { return l.all[0] }

// add puts a page into the line.
func (l *line) add(p *page) { heap.Push(l, p) }

// drop takes a page out of the line.
func (l *line) drop(p *page) { heap.Remove(l, p.slot) }

// moved lets a page stand where it belongs, as it was used, or is dirty, or is so no more.
func (l *line) moved(p *page) { heap.Fix(l, p.slot) }
