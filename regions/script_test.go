package regions

import (
	"math"
	"math/rand"
	"slices"
	"testing"

	"palimpsest/api"
)

// within tells whether a region lies in the row, or may not be at all: what may be beside the row, the row can't say.
func (p *plain) within(one api.Region) bool {
	return !allowed(one) || one.At >= p.from && one.At+one.Len <= p.from+int64(len(p.bytes))
}

// laid goes over all ways in which regions of two kinds can lie in n bytes, from a place on.
func laid(at int64, n int, yield func(l []api.Region)) {
	var next func(l []api.Region, at int64, left int)
	next = func(l []api.Region, at int64, left int) {
		if left == 0 {
			yield(l)
			return
		}
		next(l, at+1, left-1)
		for long := 1; long <= left; long++ {
			for kind := 1; kind <= 2; kind++ {
				next(append(slices.Clone(l), region(kind, at, int64(long))), at+int64(long), left-long)
			}
		}
	}
	next(nil, at, n)
}

// P12.1 to P12.4 and P12.6: all ways in which regions can lie in five bytes, at either end of all places, with all calls about them.
func TestAllThatLieInFewBytes(t *testing.T) {
	const bytes, room = 5, 8
	for _, x := range []struct{ from, at int64 }{{0, 0}, {0, 1}, {top - room, top - bytes}, {top - room, top - bytes - 1}} {
		many := 0
		laid(x.at, bytes, func(l []api.Region) {
			many++
			p, r := newPlain(x.from, room), New()
			p.heldPut(t, r, l...)
			p.tells(t, r)
			p.asked(t, r)
			p.changed(t, r)
			p.whole(t, r)
		})
		if many != 571 {
			t.Error(many)
		}
	}
}

// asked holds all that Ask and First can be asked about the row's bytes.
func (p *plain) asked(t *testing.T, r *Regions) {
	t.Helper()
	long := int64(len(p.bytes))
	for at := p.from - 1; at <= p.from+long+1; at++ {
		for n := int64(-1); n <= long+1; n++ {
			for _, but := range [][]int{nil, {1}, {2}, {2, 1}, {3}, {1, 0}} {
				p.heldAsk(t, r, at, n, but...)
			}
			for step := int64(0); step <= 5; step++ {
				p.heldFirst(t, r, at, n, step)
			}
		}
	}
}

// changed holds all Puts of one, Takes and Moves about the row's bytes, each of a copy; what they were made of stays.
func (p *plain) changed(t *testing.T, r *Regions) {
	t.Helper()
	long := int64(len(p.bytes))
	for at := p.from - 1; at <= p.from+long+1; at++ {
		c, q := r.Copy(), p.another()
		q.heldTake(t, c, at)
		has(t, c, q.all()...)
		for n := int64(-1); n <= long+1; n++ {
			if one := region(3, at, n); p.within(one) {
				c, q := r.Copy(), p.another()
				_, lies, no := c.Ask(at, n)
				q.heldPut(t, c, one)
				has(t, c, q.all()...)
				if there := slices.Contains(q.all(), one); no == api.OK && n > 0 && there == lies {
					t.Fatalf("%v: Ask and Put(%v) differ", p.all(), one)
				}
			}
		}
		for to := p.from - 1; to <= p.from+long+1; to++ {
			if one := p.at(at); p.within(region(one.Kind, to, one.Len)) {
				c, q := r.Copy(), p.another()
				q.heldMove(t, c, at, to)
				has(t, c, q.all()...)
			}
		}
	}
	has(t, r, p.all()...)
}

// whole holds what follows: regions and gaps are all bytes below End, each once, and no two gaps touch.
func (p *plain) whole(t *testing.T, r *Regions) {
	t.Helper()
	var runs []gap
	for one := range r.All() {
		runs = append(runs, gap{one.At, one.Len})
	}
	behind := int64(-1)
	for at, n := range r.Gaps(r.End()) {
		if at <= behind {
			t.Fatalf("%v: two gaps at %d", p.all(), at)
		}
		behind = at + n
		runs = append(runs, gap{at, n})
	}
	slices.SortFunc(runs, func(a, b gap) int { return int(a.at - b.at) })
	at := int64(0)
	for _, x := range runs {
		if x.at != at || x.n < 1 {
			t.Fatalf("%v: at %d %v", p.all(), at, runs)
		}
		at += x.n
	}
	if at != r.End() {
		t.Fatalf("%v: up to %d, End is %d", p.all(), at, r.End())
	}
}

// script is a row and the regions beside it, which go the same way.
type script struct {
	t    *testing.T
	rand *rand.Rand
	p    *plain
	r    *Regions
	kept []func() // what was told or copied earlier, to be asked again
}

// place is one about the row, or, seldom, one that is odd.
func (s *script) place() int64 {
	if s.rand.Intn(12) == 0 {
		return odd()[s.rand.Intn(len(odd()))]
	}
	if l := s.p.all(); len(l) > 0 && s.rand.Intn(2) == 0 {
		one := l[s.rand.Intn(len(l))]
		return one.At + []int64{0, 0, one.Len, one.Len - 1, -1}[s.rand.Intn(5)]
	}
	return s.p.from + int64(s.rand.Intn(len(s.p.bytes)+2)) - 1
}

// long is how many bytes, mostly few.
func (s *script) long() int64 {
	if s.rand.Intn(20) == 0 {
		return odd()[s.rand.Intn(len(odd()))]
	}
	return int64(1 + s.rand.Intn(6))
}

// region is one about the row that may be, or may not be.
func (s *script) region() api.Region {
	for {
		one := region(1+s.rand.Intn(16), s.place(), s.long())
		if s.rand.Intn(40) == 0 {
			one.Kind = []int{0, 17, -1, math.MaxInt}[s.rand.Intn(4)]
		}
		if s.p.within(one) {
			return one
		}
	}
}

// change is a call that may change something.
func (s *script) change() {
	switch s.rand.Intn(6) {
	case 0, 1:
		s.p.heldPut(s.t, s.r, s.region())
	case 2:
		l := make([]api.Region, s.rand.Intn(6))
		for i := range l {
			l[i] = s.region()
		}
		s.p.heldPut(s.t, s.r, l...)
	case 3:
		s.p.heldTake(s.t, s.r, s.place())
	default:
		at, to := s.place(), s.place()
		if one := s.p.at(at); s.p.within(region(one.Kind, to, one.Len)) {
			s.p.heldMove(s.t, s.r, at, to)
		}
	}
}

// ask is calls that tell something.
func (s *script) ask() {
	s.p.tells(s.t, s.r)
	s.p.whole(s.t, s.r)
	for range 10 {
		but := make([]int, s.rand.Intn(12))
		for i := range but {
			but[i] = 1 + s.rand.Intn(16)
		}
		s.p.heldAsk(s.t, s.r, s.place(), s.long()*int64(s.rand.Intn(4)), but...)
		s.p.heldFirst(s.t, s.r, s.place(), s.long(), s.long())
	}
}

// keep keeps what is told now, and a copy, which is changed and is to stay as it then is.
func (s *script) keep() {
	all, gaps, c, q := s.r.All(), s.r.Gaps(math.MaxInt64), s.r.Copy(), s.p.another()
	if !c.Same(s.r) || !s.r.Same(c) {
		s.t.Fatal("a copy is another one", s.p.all())
	}
	wantAll, wantGaps := s.p.all(), s.p.gaps(top)
	branch := &script{t: s.t, rand: s.rand, p: q, r: c}
	for range s.rand.Intn(3) {
		branch.change()
	}
	if c.Same(s.r) != slices.Equal(q.all(), s.p.all()) {
		s.t.Fatal("Same", q.all(), s.p.all())
	}
	s.kept = append(s.kept, func() {
		q.tells(s.t, c)
		if l, g := gathered(all), gapped(gaps); !slices.Equal(l, wantAll) || !slices.Equal(g, wantGaps) {
			s.t.Fatal("told otherwise than at the call", l, wantAll, g, wantGaps)
		}
	})
}

// P12.1 to P12.6: many small scripts against the row of bytes, at either end of all places and in their midst.
func TestScripts(t *testing.T) {
	for seed := range int64(240) {
		from := []int64{0, top - 40, 1 << 40}[seed%3]
		s := &script{t: t, rand: rand.New(rand.NewSource(120 + seed)), p: newPlain(from, 40), r: New()}
		for i := range 40 {
			s.change()
			s.ask()
			if i%5 == 0 {
				s.keep()
			}
		}
		for _, again := range s.kept {
			again()
		}
	}
}

// P12.6: place by place, what First tells is put in till nothing is free: then all bytes are in regions, each in one.
func TestFirstAndPut(t *testing.T) {
	for _, n := range []int64{1, 2, 3, 5} {
		for _, step := range []int64{1, 2, 3, 4, 7} {
			p, r := newPlain(top-30, 30), New()
			p.heldPut(t, r, region(1, top-25, 3), region(1, top-11, 2))
			for {
				want, wantNo := p.first(top-30, n, step)
				at, no := r.First(top-30, n, step)
				if at != want || no != wantNo {
					t.Fatal(n, step, at, no, want, wantNo)
				}
				if no != api.OK {
					break
				}
				if one, lies, no := r.Ask(at, n); lies || no != api.OK {
					t.Fatal(n, step, one, no)
				}
				p.heldPut(t, r, region(2, at, n))
			}
			p.tells(t, r)
			p.whole(t, r)
			if l := gapped(r.Gaps(top)); n == 1 && step == 1 && !slices.Equal(l, []gap{{0, top - 30}}) {
				t.Error(l)
			}
		}
	}
}
