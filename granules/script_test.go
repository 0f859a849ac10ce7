package granules

import (
	"math/rand"
	"slices"
	"testing"

	"palimpsest/api"
)

// P19.1 to P19.6: all maps of a few granules, with all calls about their edges.
func TestAllMapsOfFewGranules(t *testing.T) {
	for _, size := range []int64{0, 1, 512, 1023, 1025, 2048, 2560, 2561, 3071} {
		p := newPlain(size, 9)
		for x := range 1 << len(p.dirty) {
			for g := range p.dirty {
				p.dirty[g] = x>>g&1 == 1
			}
			m := p.filled(t)
			p.tells(t, m)
			runsAreWhatHasTells(t, m)
			for _, at := range p.edges() {
				for _, end := range p.edges() {
					p.another().heldSet(t, m.Copy(), at, end-at)
					p.another().heldReset(t, m.Copy(), at, end-at)
				}
				if at >= 0 {
					p.another().heldResize(t, m.Copy(), at)
				}
			}
			for gran := 9; gran <= 13; gran++ {
				p.heldTo(t, m, gran)
			}
			p.pairs(t, m)
			p.tells(t, m)
		}
	}
}

// runsAreWhatHasTells asks each byte.
func runsAreWhatHasTells(t *testing.T, m *Map) {
	t.Helper()
	size, _ := m.Size()
	in := make([]bool, size)
	behind := int64(-1)
	for at, n := range m.Runs() {
		if at <= behind || n < 1 || at+n > size {
			t.Fatalf("a run %d %d, behind one up to %d", at, n, behind)
		}
		behind = at + n
		for i := range n {
			in[at+i] = true
		}
	}
	for at := range size {
		if dirty, no := m.Has(at); no != api.OK || dirty != in[at] {
			t.Fatalf("Has(%d) %v %v, a run has it: %v", at, dirty, no, in[at])
		}
	}
}

// pairs merges and takes away each map of this size.
func (p *plain) pairs(t *testing.T, m *Map) {
	t.Helper()
	o := newPlain(p.size, p.gran)
	for x := range 1 << len(o.dirty) {
		for g := range o.dirty {
			o.dirty[g] = x>>g&1 == 1
		}
		other := o.filled(t)
		sum, merged := p.another(), m.Copy()
		sum.merge(o)
		if no := merged.Merge(other); no != api.OK {
			t.Fatal(no)
		}
		sum.is(t, merged)
		less, cut := p.another(), m.Copy()
		less.minus(o)
		if no := cut.Minus(other); no != api.OK {
			t.Fatal(no)
		}
		less.is(t, cut)
		turned := other.Copy()
		turned.Merge(m)
		if !turned.Same(merged) {
			t.Fatalf("%v and %v: merged in another order they are another one", p.all(), o.all())
		}
		if same := x == int(append(p.bytes(), 0)[0]); m.Same(other) != same || other.Same(m) != same {
			t.Fatalf("%v and %v: Same", p.all(), o.all())
		}
	}
}

// pair is a row and the map beside it, which go the same way.
type pair struct {
	p *plain
	m *Map
}

// script is some such pairs, most often of one size and Gran.
type script struct {
	t    *testing.T
	rand *rand.Rand
	of   []pair
	kept []func() // what was told or copied earlier, to be asked again
}

// newScript is one whose maps have no dirty granules.
func newScript(t *testing.T, seed int64) *script {
	s := &script{t: t, rand: rand.New(rand.NewSource(seed))}
	gran := 9 + s.rand.Intn(18)
	size := s.size(gran)
	for range 3 {
		s.of = append(s.of, pair{newPlain(size, gran), made(t, size, gran)})
	}
	return s
}

// any is one of the pairs.
func (s *script) any() *pair { return &s.of[s.rand.Intn(len(s.of))] }

// size is one of some granules, or of many.
func (s *script) size(gran int) int64 {
	many := []int64{3, 20, 70, 200}[s.rand.Intn(4)]
	return s.rand.Int63n(min(most, many<<gran) + 1)
}

// place is one about a map's bytes and its granules' edges, or, seldom, one that is odd.
func (s *script) place(p *plain) int64 {
	switch s.rand.Intn(20) {
	case 0:
		return odd()[s.rand.Intn(len(odd()))]
	case 1, 2:
		return p.size
	case 3, 4, 5, 6, 7, 8:
		return s.rand.Int63n(p.size+1)/p.wide()*p.wide() + s.rand.Int63n(3) - 1
	}
	return s.rand.Int63n(p.size + 1)
}

// change is a call that may change one of the maps.
func (s *script) change() {
	x := s.any()
	at, end := s.place(x.p), s.place(x.p)
	if at > end && s.rand.Intn(10) > 0 {
		at, end = end, at
	}
	switch s.rand.Intn(10) {
	case 0, 1, 2:
		x.p.heldSet(s.t, x.m, at, end-at)
	case 3, 4:
		x.p.heldReset(s.t, x.m, at, end-at)
	case 5, 6:
		s.merge(x)
	case 7:
		s.minus(x)
	case 8:
		s.resize()
	default:
		s.another(x)
	}
	for _, x := range s.of {
		x.p.is(s.t, x.m)
	}
}

// merge merges some of the maps into one of them.
func (s *script) merge(x *pair) {
	want := api.OK
	var rows []*plain
	var maps []*Map
	for range s.rand.Intn(4) {
		o := s.any()
		if o.p.size != x.p.size || o.p.gran != x.p.gran {
			want = api.ErrUnlike
		}
		rows, maps = append(rows, o.p), append(maps, o.m)
	}
	if no := x.m.Merge(maps...); no != want {
		s.t.Fatalf("Merge %v, want %v", no, want)
	}
	if want == api.OK {
		x.p.merge(rows...)
	}
}

// minus takes one of the maps away from one of them.
func (s *script) minus(x *pair) {
	o, want := s.any(), api.OK
	if o.p.size != x.p.size || o.p.gran != x.p.gran {
		want = api.ErrUnlike
	}
	if no := x.m.Minus(o.m); no != want {
		s.t.Fatalf("Minus %v, want %v", no, want)
	}
	if want == api.OK {
		x.p.minus(o.p.another())
	}
}

// resize lets one of the maps, or each, have another size.
func (s *script) resize() {
	size := s.size(s.any().p.gran)
	for i, x := range s.of {
		if i == 0 || s.rand.Intn(4) > 0 {
			x.p.heldResize(s.t, x.m, size)
		}
	}
}

// another puts another map in one's stead: a copy, one of the same bytes, one of another Gran, a cleared one.
func (s *script) another(x *pair) {
	o := s.any()
	switch s.rand.Intn(5) {
	case 0:
		gran := max(9, o.p.gran-s.rand.Intn(3))
		if s.rand.Intn(2) == 0 {
			gran = min(26, o.p.gran+s.rand.Intn(4))
		}
		p, m := o.p.heldTo(s.t, o.m, gran)
		*x = pair{p, m}
	case 1:
		m, no := Open(o.p.size, o.p.gran, o.m.Bytes())
		if no != api.OK {
			s.t.Fatal(no)
		}
		*x = pair{o.p.another(), m}
	case 2:
		if no := x.m.Clear(); no != api.OK {
			s.t.Fatal(no)
		}
		x.p = newPlain(x.p.size, x.p.gran)
	default:
		*x = pair{o.p.another(), o.m.Copy()}
	}
}

// keep keeps what is told now, and a copy, to be asked again when more was changed.
func (s *script) keep() {
	x := s.any()
	p, c, all, runs := x.p.another(), x.m.Copy(), x.m.All(), x.m.Runs()
	s.kept = append(s.kept, func() {
		s.t.Helper()
		p.tells(s.t, c)
		if l, r := listed(all), stretched(runs); !slices.Equal(l, p.all()) || !slices.Equal(r, p.runs()) {
			s.t.Fatalf("All %v, Runs %v, as they were: %v, %v", l, r, p.all(), p.runs())
		}
	})
}

// P19.1 to P19.6: many scripts of calls, of maps of each Gran.
func TestScripts(t *testing.T) {
	for seed := range int64(300) {
		s := newScript(t, seed)
		for i := range 60 {
			s.change()
			if i%20 == 10 {
				s.keep()
			}
		}
		for _, ask := range s.kept {
			ask()
		}
		for _, x := range s.of {
			x.p.tells(t, x.m)
			for y := range s.of {
				o := s.of[y]
				same := o.p.size == x.p.size && o.p.gran == x.p.gran && slices.Equal(o.p.dirty, x.p.dirty)
				if x.m.Same(o.m) != same || o.m.Same(x.m) != same {
					t.Fatalf("%v and %v: Same", x.p.all(), o.p.all())
				}
			}
		}
	}
}
