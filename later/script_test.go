package later

import (
	"math/rand"
	"slices"
	"testing"

	"palimpsest/api"
)

// laid goes over all rows of n bytes, from a place on, each with what waits in it.
func laid(t *testing.T, from int64, n int, yield func(p *plain, q *Later)) {
	t.Helper()
	for bits := range 1 << n {
		p := newPlain(from, n)
		var l []api.Run
		for i := range n {
			if bits>>i&1 == 1 {
				l = append(l, run(from+int64(i), 1))
			}
		}
		p.set(true, l...)
		yield(p, made(t, l...))
	}
}

// about goes over all runs that lie in the row, and some that may not be.
func (p *plain) about(yield func(x api.Run)) {
	long := int64(len(p.bytes))
	for at := range long {
		for n := range long - at + 1 {
			yield(run(p.from+at, n))
		}
	}
	yield(run(-1, 2))
	yield(run(top, 1))
}

// P13.1 to P13.5: all rows of seven bytes, at either end of all places, with all calls about them.
func TestAllRowsOfFewBytes(t *testing.T) {
	const n = 7
	for _, from := range []int64{0, 1, top - n} {
		laid(t, from, n, func(p *plain, q *Later) {
			p.tells(t, q)
			p.about(func(x api.Run) {
				p.heldOver(t, q, x)
				p.tried(t, q, func(p *plain, q *Later) { p.heldPut(t, q, x) })
				p.tried(t, q, func(p *plain, q *Later) { p.heldCut(t, q, x) })
			})
			for most := int64(-1); most <= n+1; most++ {
				p.tried(t, q, func(p *plain, q *Later) { p.heldNext(t, q, most) })
				p.drained(t, q, most)
			}
			p.tried(t, q, func(p *plain, q *Later) { p.heldGreatest(t, q) })
			p.tells(t, q)
		})
	}
}

// tried lets a call change copies of both, and holds them against each other.
func (p *plain) tried(t *testing.T, q *Later, call func(p *plain, q *Later)) {
	t.Helper()
	next, c := p.another(), q.Copy()
	call(next, c)
	next.tells(t, c)
	if c.Same(q) != slices.Equal(next.bytes, p.bytes) || q.Same(c) != c.Same(q) {
		t.Fatal("Same", p.all(), next.all())
	}
}

// drained holds what is drained off a copy against what waits: each byte once, rising.
func (p *plain) drained(t *testing.T, q *Later, most int64) {
	t.Helper()
	c, next := q.Copy(), p.another()
	var want []api.Run
	for {
		x, no := next.next(most)
		if no != api.OK {
			break
		}
		want = append(want, x)
	}
	if l := gathered(c.Drain(most)); !slices.Equal(l, want) {
		t.Fatalf("%v: Drain(%d) %v, want %v", p.all(), most, l, want)
	}
	next.tells(t, c)
}

// P13.1, P13.5: all rows of five bytes, with two runs in one call, and in two calls in either order.
func TestTwoRunsOnFewBytes(t *testing.T) {
	const n = 5
	for _, from := range []int64{0, top - n} {
		laid(t, from, n, func(p *plain, q *Later) {
			p.about(func(x api.Run) {
				p.about(func(y api.Run) {
					p.tried(t, q, func(p *plain, q *Later) { p.heldPut(t, q, x, y) })
					p.tried(t, q, func(p *plain, q *Later) { p.heldPut(t, q, x); p.heldPut(t, q, y) })
				})
			})
		})
	}
}

// script is one and its row, that random calls change alike.
type script struct {
	t    *testing.T
	rand *rand.Rand
	p    *plain
	q    *Later
	kept []func()
}

// some is a run of the row, mostly a short one; seldom one that may not be.
func (s *script) some() api.Run {
	if s.rand.Intn(40) == 0 {
		return []api.Run{run(-1, 2), run(s.p.from, 0), run(top, 1), run(top-1, 2), run(s.p.from, -1)}[s.rand.Intn(5)]
	}
	at := s.rand.Intn(len(s.p.bytes))
	n := 1 + s.rand.Intn(min(len(s.p.bytes)-at, 1+s.rand.Intn(12)))
	return run(s.p.from+int64(at), int64(n))
}

func (s *script) change() {
	switch s.rand.Intn(9) {
	case 0, 1, 2:
		s.p.heldPut(s.t, s.q, s.some())
	case 3:
		var l []api.Run
		for range s.rand.Intn(7) {
			l = append(l, s.some())
		}
		s.p.heldPut(s.t, s.q, l...)
	case 4, 5:
		s.p.heldCut(s.t, s.q, s.some())
	case 6:
		s.p.heldNext(s.t, s.q, int64(s.rand.Intn(9)))
	case 7:
		s.p.heldGreatest(s.t, s.q)
	default:
		s.drain()
	}
	s.p.tells(s.t, s.q)
}

// drain goes over a few, and may put some meanwhile.
func (s *script) drain() {
	most, left := int64(1+s.rand.Intn(5)), s.rand.Intn(3)
	for x := range s.q.Drain(most) {
		want, no := s.p.next(most)
		if x != want || no != api.OK {
			s.t.Fatal("Drain", most, x, want, no)
		}
		if s.rand.Intn(3) == 0 {
			s.p.heldPut(s.t, s.q, s.some())
		}
		if left--; left < 0 {
			return
		}
	}
	if n, _ := s.p.size(); n > 0 {
		s.t.Fatal("Drain left", s.p.all())
	}
}

// keep keeps what is told now, and a copy, which is changed and is to stay as it then is.
func (s *script) keep() {
	all, want, c := s.q.All(), s.p.all(), &script{t: s.t, rand: s.rand, p: s.p.another(), q: s.q.Copy()}
	if !c.q.Same(s.q) || !s.q.Same(c.q) {
		s.t.Fatal("a copy is another one", want)
	}
	for range s.rand.Intn(3) {
		c.change()
	}
	if c.q.Same(s.q) != slices.Equal(c.p.bytes, s.p.bytes) {
		s.t.Fatal("Same", c.p.all(), want)
	}
	s.kept = append(s.kept, func() {
		c.p.tells(s.t, c.q)
		if l := gathered(all); !slices.Equal(l, want) {
			s.t.Fatal("told otherwise than at the call", l, want)
		}
	})
}

// P13.1 to P13.5: many small scripts against the row of bytes, at either end of all places and in their midst.
func TestScripts(t *testing.T) {
	for seed := range int64(300) {
		from := []int64{0, top - 60, 1 << 40}[seed%3]
		s := &script{t: t, rand: rand.New(rand.NewSource(130 + seed)), p: newPlain(from, 60), q: made(t)}
		for i := range 60 {
			s.change()
			s.p.heldOver(t, s.q, s.some())
			if i%7 == 0 {
				s.keep()
			}
		}
		for _, again := range s.kept {
			again()
		}
	}
}

// P13.1, P13.5: scripts at the bound of runs, over a row with room for some more: what is refused changes nothing.
func TestScriptsAtTheBound(t *testing.T) {
	puts, cuts := map[api.Errno]int{}, map[api.Errno]int{}
	for seed := range int64(6) {
		s := &script{t: t, rand: rand.New(rand.NewSource(500 + seed)), p: newPlain(top-4*most-50, 4*most+50), q: made(t)}
		for i := range most - 1 {
			copy(s.p.bytes[4*i:], []bool{true, true, true})
		}
		s.p.bytes[len(s.p.bytes)-9] = true
		s.q.Put(s.p.all()...)
		for range 150 {
			at := s.p.from + int64(s.rand.Intn(len(s.p.bytes)-12))
			switch s.rand.Intn(5) {
			case 0, 1, 2:
				cuts[s.p.heldCut(t, s.q, run(at, 1))]++
			case 3:
				puts[s.p.heldPut(t, s.q, run(at, int64(1+s.rand.Intn(3))))]++
			default:
				puts[s.p.heldPut(t, s.q, run(at, 1), run(top-1-int64(s.rand.Intn(40)), 1))]++
			}
			s.p.tells(t, s.q)
		}
	}
	for _, no := range []api.Errno{api.OK, api.ErrFull} {
		if puts[no] < 10 || cuts[no] < 10 {
			t.Error("too few are tried", puts, cuts)
		}
	}
}
