package later

import "palimpsest/api"

// waits is a run that waits, and where in its line it stands.
type waits struct {
	run  api.Run
	slot int
}

// line is runs in a heap (container/heap).
type line struct {
	all   []*waits
	ahead func(i, j int) bool // which of two is to be nearer to the top
}

// newLine makes a line whose first run is at its top.
func newLine() *line {
	l := &line{}
	l.ahead = l.earlier
	return l
}

// Len tells how many runs there are.
func (l *line) Len() int { return len(l.all) }

// Less tells which of two is ahead, by the order that the line was given.
func (l *line) Less(i, j int) bool { return l.ahead(i, j) }

// Swap lets two change their slots.
func (l *line) Swap(i, j int) {
	l.all[i], l.all[j] = l.all[j], l.all[i]
	l.all[i].slot, l.all[j].slot = i, j
}

// Push puts a run behind all others.
func (l *line) Push(x any) {
	w := x.(*waits)
	w.slot = len(l.all)
	l.all = append(l.all, w)
}

// Pop takes off the one behind all others.
func (l *line) Pop() any {
	last := len(l.all) - 1
	w := l.all[last]
	// What is left in the slot would be kept for as long as the line is.
	l.all[last] = nil
	l.all = l.all[:last]
	return w
}

// earlier tells whether a run begins ahead of another one.
func (l *line) earlier(i, j int) bool { return l.all[i].run.At < l.all[j].run.At }

// greater tells whether a run is longer than another one, or as long, and ahead of it.
func (l *line) greater(i, j int) bool {
	a, b := l.all[i].run, l.all[j].run
	return a.Len > b.Len || a.Len == b.Len && l.ahead(i, j)
}

// first is the run at the top; there must be one.
func (l *line) first() *waits { return l.all[0] }

// greatest is the greatest run; there must be one.
func (l *line) greatest() *waits {
	most := 0
	for i := range l.all {
		if l.greater(i, most) {
			most = i
		}
	}
	return l.all[most]
}
