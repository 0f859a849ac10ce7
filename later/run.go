package later

import (
	"cmp"
	"slices"
	"sort"

	"palimpsest/api"
)

// may tells whether a run may be. Its two numbers are not added up ahead of that, since huge ones would wrap round.
func may(x api.Run) bool { return x.At >= 0 && x.Len >= 1 && x.At <= api.MaxPlace-x.Len }

// end is the place behind a run's last byte.
func end(x api.Run) int64 { return x.At + x.Len }

// together is the bytes of all runs of some lists, in new memory: as long as they can be, in order.
func together(lists ...[]api.Run) []api.Run {
	l := slices.Concat(lists...)
	slices.SortFunc(l, func(a, b api.Run) int { return cmp.Compare(a.At, b.At) })
	out := l[:0]
	for _, x := range l {
		last := len(out) - 1
		if last < 0 || end(out[last]) < x.At {
			out = append(out, x)
			continue
		}
		out[last].Len = max(end(out[last]), end(x)) - out[last].At
	}
	return out
}

// shares tells whether a run has a byte of one of some, which are in order and do not meet.
func shares(l []api.Run, x api.Run) bool {
	// Those that end ahead of it do not matter, and if the next one does not share a byte, none does.
	i := sort.Search(len(l), func(i int) bool { return end(l[i]) > x.At })
	return i < len(l) && l[i].At < end(x)
}

// without is what is left of a run, on either side, when the bytes that it shares with another one are taken out; there must be some.
func without(x, out api.Run) []api.Run {
	var left []api.Run
	if x.At < out.At {
		left = append(left, api.Run{At: x.At, Len: out.At - x.At})
	}
	if end(x) > end(out) {
		left = append(left, api.Run{At: end(out), Len: end(x) - end(out)})
	}
	return left
}

// runs are the runs of those that wait.
func runs(l []*waits) []api.Run {
	out := make([]api.Run, len(l))
	for i, w := range l {
		out[i] = w.run
	}
	return out
}
