package store

import (
	"math"
	"math/rand"
	"slices"
	"strings"
	"testing"

	"palimpsest/api"
)

// P6.5: picks go over the files by rising names, and over each one's pieces in their order.
func TestCrashOrder(t *testing.T) {
	s, _ := New()
	for _, n := range []string{"c", "a", "b"} {
		want(t, s.Create(n), api.OK)
		want(t, s.Resize(n, 4), api.OK)
	}
	want(t, s.Write("c", 0, []byte("C")), api.OK)
	want(t, s.Write("a", 2, []byte("A")), api.OK)
	want(t, s.Write("b", 0, []byte("BB")), api.OK)
	want(t, s.Write("a", 0, []byte("aaa")), api.OK)
	want(t, s.Write("b", 1, []byte("bb")), api.OK)
	before := s.Copy()
	one := math.MaxInt - math.MaxInt%2 - 1
	for _, c := range []struct {
		picks   []int
		a, b, c string
	}{
		{nil, "\x00\x00\x00\x00", "\x00\x00\x00\x00", "\x00\x00\x00\x00"},
		{[]int{1}, "\x00\x00A\x00", "\x00\x00\x00\x00", "\x00\x00\x00\x00"},
		{[]int{0, 1}, "aaa\x00", "\x00\x00\x00\x00", "\x00\x00\x00\x00"},
		{[]int{1, 1}, "aaa\x00", "\x00\x00\x00\x00", "\x00\x00\x00\x00"},
		{[]int{0, 0, 1}, "\x00\x00\x00\x00", "BB\x00\x00", "\x00\x00\x00\x00"},
		{[]int{0, 0, 0, 1}, "\x00\x00\x00\x00", "\x00bb\x00", "\x00\x00\x00\x00"},
		{[]int{0, 0, 1, 1}, "\x00\x00\x00\x00", "Bbb\x00", "\x00\x00\x00\x00"},
		{[]int{0, 0, 0, 0, 1}, "\x00\x00\x00\x00", "\x00\x00\x00\x00", "C\x00\x00\x00"},
		{[]int{2, 3, 4, one, one - 1, 1, 1, 7}, "aaa\x00", "\x00bb\x00", "\x00\x00\x00\x00"},
		{[]int{1, 1, 1, 1, 1, 0, 0}, "aaa\x00", "Bbb\x00", "C\x00\x00\x00"},
	} {
		l, e := s.Crash(c.picks...)
		want(t, e, api.OK)
		reads(t, l, "a", c.a)
		reads(t, l, "b", c.b)
		reads(t, l, "c", c.c)
		lasts(t, l, "a", c.a)
		steps(t, l, 0, 0)
		if l.Pending() != 0 || !slices.Equal(l.Names(), []string{"a", "b", "c"}) {
			t.Fatal(l.Pending(), l.Names())
		}
		if !s.Same(before) {
			t.Fatal("a crash changed the old store")
		}
	}
}

// P6.5: a pick below 0 is refused, wherever it stands, though no piece takes it; picks are as they were.
func TestCrashRefuses(t *testing.T) {
	s := made(t, "abc")
	want(t, s.Write("a", 0, []byte("x")), api.OK)
	for _, picks := range [][]int{{-1}, {math.MinInt}, {1, -1}, {1, 0, 0, -2, 1}} {
		was := slices.Clone(picks)
		if c, e := s.Crash(picks...); c != nil || e != api.ErrArg {
			t.Fatal(picks, c, e)
		}
		if !slices.Equal(was, picks) {
			t.Fatal(picks)
		}
	}
	picks := []int{3, 2, 9}
	if c, e := s.Crash(picks[:2]...); c == nil || e != api.OK || !slices.Equal(picks, []int{3, 2, 9}) {
		t.Fatal(c, e, picks)
	}
	steps(t, s, 4, 0)
}

// P6.5: what a crash leaves has no fates and no steps, and goes on apart.
func TestCrashGoesOnApart(t *testing.T) {
	s := made(t, strings.Repeat("l", 600))
	want(t, s.Feed(api.Fate{}, api.Fate{Kind: fail}), api.OK)
	want(t, s.Write("a", 1, []byte("x")), api.OK)
	before := s.Copy()
	c, _ := s.Crash(1)
	steps(t, c, 0, 0)
	steps(t, s, 4, 1)
	want(t, c.Write("a", 0, []byte("crash")), api.OK)
	want(t, c.Flush("a"), api.OK)
	want(t, c.Resize("a", 5), api.OK)
	want(t, c.Create("b"), api.OK)
	reads(t, c, "a", "crash")
	if !s.Same(before) {
		t.Fatal("changed")
	}
	reads(t, s, "a", "lx"+strings.Repeat("l", 598))
	lasts(t, s, "a", strings.Repeat("l", 600))
	want(t, s.Remove("a"), api.ErrDisk)
	want(t, s.Remove("a"), api.OK)
	reads(t, c, "a", "crash")
	steps(t, c, 4, 0)
}

// P6.5: a copy has fates and steps, and goes on apart.
func TestCopyGoesOnApart(t *testing.T) {
	s := made(t, strings.Repeat("l", 600))
	want(t, s.Feed(api.Fate{}, api.Fate{Kind: fail}, api.Fate{Kind: full}), api.OK)
	want(t, s.Write("a", 1, []byte("x")), api.OK)
	c := s.Copy()
	steps(t, c, 4, 2)
	want(t, c.Feed(api.Fate{Kind: full}), api.OK)
	want(t, s.Feed(api.Fate{Kind: fail}), api.OK)
	for i, e := range []api.Errno{api.ErrDisk, api.ErrFull, api.ErrFull, api.OK} {
		if have := c.Create("b"); have != e {
			t.Fatal(i, have)
		}
	}
	steps(t, s, 4, 3)
	for i, e := range []api.Errno{api.ErrDisk, api.ErrFull, api.ErrDisk, api.OK} {
		if have := s.Create("b"); have != e {
			t.Fatal(i, have)
		}
	}
	if !s.Same(c) {
		t.Fatal("not the same")
	}
	want(t, c.Write("a", 2, []byte("y")), api.OK)
	want(t, s.Write("a", 3, []byte("z")), api.OK)
	pieces(t, c, "a", api.Piece{At: 1, Len: 1}, api.Piece{At: 2, Len: 1})
	pieces(t, s, "a", api.Piece{At: 1, Len: 1}, api.Piece{At: 3, Len: 1})
	want(t, c.Flush("a"), api.OK)
	lasts(t, c, "a", "lxy"+strings.Repeat("l", 597))
	lasts(t, s, "a", strings.Repeat("l", 600))
	reads(t, s, "a", "lxlz"+strings.Repeat("l", 596))
	want(t, s.Resize("a", 2), api.OK)
	want(t, s.Remove("b"), api.OK)
	reads(t, c, "a", "lxy"+strings.Repeat("l", 597))
	reads(t, c, "b", "")
}

// P6.5: fates that were fed one by one leave room behind them: a copy's further ones do not come into the other's.
func TestCopyOfFates(t *testing.T) {
	for fed := range 20 {
		s, _ := New()
		for range fed {
			want(t, s.Feed(api.Fate{}), api.OK)
		}
		c := s.Copy()
		want(t, s.Feed(api.Fate{Kind: fail}), api.OK)
		want(t, c.Feed(api.Fate{Kind: full}), api.OK)
		for i := range fed {
			want(t, s.Create(string(rune('a'+i))), api.OK)
			want(t, c.Create(string(rune('a'+i))), api.OK)
		}
		want(t, s.Create("z"), api.ErrDisk)
		want(t, c.Create("z"), api.ErrFull)
	}
}

// P6.5: Same asks lasting bytes, pieces and names; neither fates, nor steps, nor what is read.
func TestSame(t *testing.T) {
	base := func() *Store { return made(t, "abc") }
	same := func(a, b *Store, is bool) {
		t.Helper()
		if a.Same(b) != is || b.Same(a) != is || !a.Same(a) || !b.Same(b) {
			t.Fatalf("same is not %v", is)
		}
	}
	s, o := base(), base()
	same(s, o, true)
	want(t, o.Feed(api.Fate{}, api.Fate{}), api.OK)
	want(t, o.Flush("a"), api.OK)
	same(s, o, true)
	want(t, o.Write("a", 1, []byte("b")), api.OK)
	same(s, o, false)
	want(t, s.Write("a", 1, []byte("B")), api.OK)
	same(s, o, false)
	s, o = base(), base()
	want(t, s.Write("a", 0, []byte("xy")), api.OK)
	want(t, o.Write("a", 0, []byte("x")), api.OK)
	want(t, o.Write("a", 1, []byte("y")), api.OK)
	reads(t, s, "a", "xyc")
	reads(t, o, "a", "xyc")
	same(s, o, false)
	want(t, s.Flush("a"), api.OK)
	same(s, o, false)
	want(t, o.Flush("a"), api.OK)
	same(s, o, true)
	s, o = base(), base()
	want(t, s.Write("a", 0, []byte("x")), api.OK)
	want(t, s.Write("a", 1, []byte("y")), api.OK)
	want(t, o.Write("a", 1, []byte("y")), api.OK)
	want(t, o.Write("a", 0, []byte("x")), api.OK)
	same(s, o, false)
	s, o = base(), base()
	want(t, s.Write("a", 0, []byte("x")), api.OK)
	want(t, o.Write("a", 1, []byte("x")), api.OK)
	same(s, o, false)
	s, o = base(), base()
	want(t, s.Create("b"), api.OK)
	same(s, o, false)
	want(t, o.Create("c"), api.OK)
	same(s, o, false)
	want(t, o.Create("b"), api.OK)
	want(t, s.Create("c"), api.OK)
	same(s, o, true)
	want(t, s.Resize("b", 5), api.OK)
	same(s, o, false)
}

// P6.5: noughts that were written are the same as noughts that were never written.
func TestSameNoughts(t *testing.T) {
	s, o := made(t, noughts(1500)), made(t, "")
	want(t, o.Resize("a", 1500), api.OK)
	if !s.Same(o) || !o.Same(s) {
		t.Fatal("noughts differ")
	}
	want(t, s.Write("a", 700, []byte("x")), api.OK)
	want(t, o.Write("a", 700, []byte("x")), api.OK)
	if !s.Same(o) || !o.Same(s) {
		t.Fatal("pieces over noughts differ")
	}
	want(t, o.Flush("a"), api.OK)
	want(t, s.Resize("a", 0), api.OK)
	want(t, s.Resize("a", 1500), api.OK)
	if s.Same(o) || o.Same(s) {
		t.Fatal("x is as noughts")
	}
	c, _ := o.Crash()
	want(t, c.Write("a", 1499, []byte("y")), api.OK)
	want(t, c.Flush("a"), api.OK)
	if c.Same(o) || o.Same(c) {
		t.Fatal("y is as noughts")
	}
}

// ways goes over all picks of 0 and 1 for n pieces.
func ways(n int) [][]int {
	l := [][]int{nil}
	for range n {
		var more [][]int
		for _, w := range l {
			more = append(more, append(slices.Clone(w), 0), append(slices.Clone(w), 1))
		}
		l = more
	}
	return l
}

// P6.6: behind a flush of all files that went well each crash leaves the same, and what is read.
func TestFlushedLasts(t *testing.T) {
	for seed := range 200 {
		r := rand.New(rand.NewSource(int64(seed)))
		p := newPair(t)
		for range 15 {
			p.do(t, r)
		}
		for _, n := range p.s.Names() {
			for p.s.Flush(n) != api.OK {
			}
		}
		if p.s.Pending() != 0 {
			t.Fatal(p.s.Pending())
		}
		for range 5 {
			c, e := p.s.Crash(somePicks(r)...)
			if e != api.OK || !c.Same(p.s) || !p.s.Same(c) {
				t.Fatal(e)
			}
		}
	}
}

// P6.6: each byte that a crash leaves is as it lasted, or as some write since asked, piece by piece; with the pick 1 for each piece it leaves what is read.
func TestCrashLeavesWrites(t *testing.T) {
	for seed := range 300 {
		r := rand.New(rand.NewSource(int64(seed)))
		s := made(t, strings.Repeat("\x01", 1536))
		asked := make([][]byte, 1536)
		for i := range asked {
			asked[i] = []byte{1}
		}
		for i := range 3 {
			at, n := r.Intn(1000), 1+r.Intn(530)
			x := byte(2 + i)
			want(t, s.Write("a", int64(at), []byte(strings.Repeat(string([]byte{x}), n))), api.OK)
			for k := at; k < at+n; k++ {
				asked[k] = append(asked[k], x)
			}
		}
		now, _ := s.Read("a", 0, 1536)
		for _, w := range ways(s.Pending()) {
			c, _ := s.Crash(w...)
			b, _ := c.Read("a", 0, 1536)
			for i, x := range b {
				if !slices.Contains(asked[i], x) {
					t.Fatalf("seed %d, picks %v, byte %d: %d, asked were %v", seed, w, i, x, asked[i])
				}
			}
			k := 0
			for p := range s.Pieces("a") {
				if w[k] == 1 && !slices.ContainsFunc(b[p.At:p.At+int64(p.Len)], func(x byte) bool { return x != 1 }) {
					t.Fatal("a piece that lasts is not there")
				}
				k++
			}
			if !slices.Contains(w, 0) && string(b) != string(now) {
				t.Fatalf("seed %d: all picked leave %q, %q is read", seed, b, now)
			}
		}
	}
}
