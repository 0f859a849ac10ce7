package image

import (
	"maps"
	"slices"

	"palimpsest/api"
)

// mostNames is how many clusters are named to the counts at a time.
const mostNames = 1 << 16

// sums is how often clusters are held, by their numbers.
type sums map[int64]uint64

// most is the greatest count.
func (f fixed) most() uint64 { return 1<<(1<<f.order) - 1 }

// may tells whether the counts can be more by so much, as often as these are held: what is refused is to change nothing.
func (c *core) may(by int64, held sums) api.Errno {
	full := false
	for k, times := range held {
		count, no := c.Count(k)
		switch {
		case no == api.ErrRange, by < 0 && count < times:
			return api.ErrBroken
		case no != api.OK:
			return no
		case by > 0 && c.most()-count < times:
			full = true
		}
	}
	if full {
		return api.ErrFull
	}
	return api.OK
}

// add is the step that adds so much to the counts, as often as these are held.
// Few are named at a time: where tables lead to one another more often than to anything else, there are more names than memory.
func (c *core) add(by int64, held sums) step {
	return func() api.Errno {
		var names []int64
		for _, k := range slices.Sorted(maps.Keys(held)) {
			for range held[k] {
				if len(names) == mostNames {
					if no := c.Add(by, names...); no != api.OK {
						return no
					}
					names = names[:0]
				}
				names = append(names, k)
			}
		}
		return c.Add(by, names...)
	}
}

// hold adds so much to the counts of all that a tree holds.
func (c *core) hold(l1 int64, long int, by int64) api.Errno {
	s, no := c.look()
	if no != api.OK {
		return no
	}
	held, no := s.held(l1, long)
	if no != api.OK {
		return no
	}
	if no := c.may(by, held); no != api.OK {
		return no
	}
	return c.done(c.add(by, held), c.flush)
}

// held gathers how often a tree holds clusters, but for those of its L1 table.
// Each L2 table is gone through once, however often it is led to: of few bytes there are more ways through them than anybody could wait for.
func (s seen) held(l1 int64, long int) (sums, api.Errno) {
	all, tables := sums{}, sums{}
	hold := func(k int64, times uint64) {
		if k != 0 {
			all[k] += times
		}
	}
	if long > 0 && !s.l1(l1, long) {
		return nil, api.ErrBroken
	}
	for i := range long {
		place, no := s.lead(l1 + int64(i)*wide)
		if no != api.OK {
			return nil, no
		}
		if place != 0 {
			tables[place]++
		}
	}
	for place, times := range tables {
		hold(place/s.cluster(), times)
		if no := s.entries(place, func(e api.Entry) { hold(s.home(e), times) }); no != api.OK {
			return nil, no
		}
	}
	return all, api.OK
}

// entries goes over all entries of an L2 table.
func (s seen) entries(place int64, visit func(e api.Entry)) api.Errno {
	b, no := s.table(place)
	if no != api.OK {
		return no
	}
	for i := range len(b) / wide {
		e, no := s.entry(b, i)
		if no != api.OK {
			return no
		}
		visit(e)
	}
	return api.OK
}
