package store

import (
	"math"
	"slices"
	"strings"
	"testing"

	"palimpsest/api"
)

// P6.4: Read tells n bytes, or as many as there are.
func TestRead(t *testing.T) {
	s := made(t, strings.Repeat("ab", 600))
	whole := strings.Repeat("ab", 600)
	for _, c := range []struct {
		at   int64
		n    int
		want string
	}{
		{0, 0, ""}, {7, 0, ""}, {1200, 0, ""}, {1200, 1, ""}, {1200, math.MaxInt, ""},
		{0, 1, "a"}, {1, 2, "ba"}, {511, 2, "ba"}, {512, 512, whole[:512]}, {510, 600, whole[:600]},
		{0, 1200, whole}, {0, 1201, whole}, {1199, 5, "b"}, {1, math.MaxInt, whole[1:]},
	} {
		if b, e := s.Read("a", c.at, c.n); string(b) != c.want || e != api.OK {
			t.Fatalf("read of %d at %d: %q %v, want %q", c.n, c.at, b, e, c.want)
		}
	}
	for _, c := range []struct {
		at int64
		n  int
	}{{-1, 0}, {-1, 5}, {math.MinInt64, 1}, {1201, 0}, {1201, 1}, {math.MaxInt64, math.MaxInt}, {0, -1}, {5, math.MinInt}, {1200, -1}} {
		if b, e := s.Read("a", c.at, c.n); b != nil || e != api.ErrRange {
			t.Fatalf("read of %d at %d: %q %v", c.n, c.at, b, e)
		}
	}
	steps(t, s, 3, 0)
}

// P6.4: what is read is new memory: changing it changes neither pieces nor what lasts.
func TestReadIsNew(t *testing.T) {
	s := made(t, strings.Repeat("l", 1024))
	want(t, s.Write("a", 512, []byte(strings.Repeat("p", 512))), api.OK)
	for range 2 {
		b, _ := s.Read("a", 0, 1024)
		clear(b[:cap(b)])
		reads(t, s, "a", strings.Repeat("l", 512)+strings.Repeat("p", 512))
		lasts(t, s, "a", strings.Repeat("l", 1024))
	}
}

// P6.4: names rise byte by byte, and are told in new memory.
func TestNames(t *testing.T) {
	s, _ := New()
	rising := []string{"\x01", "A", "a", "a\x01", "aa", strings.Repeat("a", 64), "b", "\x80", "ä", "\xff"}
	for _, i := range []int{3, 9, 0, 7, 1, 8, 5, 2, 6, 4} {
		want(t, s.Create(rising[i]), api.OK)
	}
	l := s.Names()
	if !slices.Equal(l, rising) {
		t.Fatalf("%q", l)
	}
	clear(l[:cap(l)])
	if !slices.Equal(s.Names(), rising) {
		t.Fatalf("%q", s.Names())
	}
}

// P6.4: Pieces tells them as they are when it is called, may be left early, and gone over again.
func TestPieces(t *testing.T) {
	s := made(t, "abc")
	want(t, s.Write("a", 510, []byte("wxyz")), api.OK)
	want(t, s.Write("a", 0, []byte("p")), api.OK)
	all := []api.Piece{{At: 510, Len: 2}, {At: 512, Len: 2}, {At: 0, Len: 1}}
	p := s.Pieces("a")
	want(t, s.Write("a", 5, []byte("later")), api.OK)
	for n := range 4 {
		var l []api.Piece
		for x := range p {
			if len(l) == n {
				break
			}
			l = append(l, x)
		}
		if !slices.Equal(l, all[:n]) {
			t.Fatal(n, l)
		}
	}
	want(t, s.Resize("a", 1), api.OK)
	want(t, s.Flush("a"), api.OK)
	want(t, s.Remove("a"), api.OK)
	if l := slices.Collect(p); !slices.Equal(l, all) {
		t.Fatal(l)
	}
	pieces(t, s, "a")
	pieces(t, s, "")
	pieces(t, s, strings.Repeat("n", 65))
}

// P6.4: a call within the range may change the store; what is told stays.
func TestPiecesWhileChanged(t *testing.T) {
	s := made(t, "abc")
	want(t, s.Write("a", 500, []byte(strings.Repeat("w", 1100))), api.OK)
	n := 0
	for p := range s.Pieces("a") {
		if p.At != []int64{500, 512, 1024, 1536}[n] {
			t.Fatal(n, p)
		}
		n++
		want(t, s.Write("a", p.At, []byte("more")), api.OK)
	}
	if n != 4 || s.Pending() != 8 {
		t.Fatal(n, s.Pending())
	}
}

// P6.4: Pending counts the pieces of all files.
func TestPending(t *testing.T) {
	s := made(t, "")
	want(t, s.Create("b"), api.OK)
	want(t, s.Create("c"), api.OK)
	want(t, s.Write("a", 511, []byte("xyz")), api.OK)
	want(t, s.Write("c", 0, []byte("x")), api.OK)
	if s.Pending() != 3 {
		t.Fatal(s.Pending())
	}
	want(t, s.Flush("a"), api.OK)
	if s.Pending() != 1 {
		t.Fatal(s.Pending())
	}
	want(t, s.Remove("c"), api.OK)
	if s.Pending() != 0 {
		t.Fatal(s.Pending())
	}
}
