package store

import (
	"bytes"
	"math"
	"slices"
	"strings"
	"testing"

	"palimpsest/api"
)

var (
	fail = api.FateFail
	full = api.FateFull
)

// made is a store with the file a of these bytes, all of which last, and without steps to come but good ones.
func made(t *testing.T, b string) *Store {
	t.Helper()
	s, e := New()
	want(t, e, api.OK)
	want(t, s.Create("a"), api.OK)
	want(t, s.Write("a", 0, []byte(b)), api.OK)
	want(t, s.Flush("a"), api.OK)
	return s
}

func want(t *testing.T, have, want api.Errno) {
	t.Helper()
	if have != want {
		t.Fatalf("%v, want %v", have, want)
	}
}

// reads holds the whole of a file against bytes.
func reads(t *testing.T, s *Store, name, want string) {
	t.Helper()
	b, e := s.Read(name, 0, math.MaxInt)
	size, _ := s.Size(name)
	if e != api.OK || string(b) != want || size != int64(len(want)) {
		t.Fatalf("%q of %d bytes is read as %q %v, want %q", name, size, b, e, want)
	}
}

// lasts holds the lasting bytes of a file against bytes.
func lasts(t *testing.T, s *Store, name, want string) {
	t.Helper()
	c, e := s.Crash()
	if e != api.OK {
		t.Fatal(e)
	}
	reads(t, c, name, want)
}

func pieces(t *testing.T, s *Store, name string, want ...api.Piece) {
	t.Helper()
	if l := slices.Collect(s.Pieces(name)); !slices.Equal(l, want) {
		t.Fatalf("pieces of %q: %v, want %v", name, l, want)
	}
}

func steps(t *testing.T, s *Store, done, left int) {
	t.Helper()
	if n, l := s.Steps(); n != done || l != left {
		t.Fatalf("steps %d, %d left, want %d, %d", n, l, done, left)
	}
}

func noughts(n int) string { return strings.Repeat("\x00", n) }

// The rows of the chapter's section 'Examples'.
func TestExamples(t *testing.T) {
	s, e := New()
	want(t, e, api.OK)
	want(t, s.Create("a"), api.OK)
	want(t, s.Write("a", 510, []byte("wxyz")), api.OK)
	if n, e := s.Size("a"); n != 514 || e != api.OK || s.Pending() != 2 {
		t.Fatal(n, e, s.Pending())
	}
	pieces(t, s, "a", api.Piece{At: 510, Len: 2}, api.Piece{At: 512, Len: 2})
	c, e := s.Crash(0, 1)
	want(t, e, api.OK)
	if b, e := c.Read("a", 510, 9); string(b) != "\x00\x00yz" || e != api.OK {
		t.Fatal(b, e)
	}
	want(t, s.Flush("a"), api.OK)
	want(t, s.Write("a", 0, []byte("b")), api.OK)
	c, _ = s.Crash()
	if b, e := c.Read("a", 0, 1); string(b) != "\x00" || e != api.OK {
		t.Fatal(b, e)
	}
	want(t, s.Feed(api.Fate{Kind: fail, Keep: 1}), api.OK)
	want(t, s.Write("a", 510, []byte("stuv")), api.ErrDisk)
	reads(t, s, "a", "b"+noughts(509)+"styz")
	want(t, s.Resize("a", 1), api.OK)
	if b, e := s.Read("a", 2, 1); b != nil || e != api.ErrRange {
		t.Fatal(b, e)
	}
	want(t, s.Create("a"), api.ErrThere)
	want(t, s.Write("b", 0, []byte("..")), api.ErrNone)
}

// P6.1: a new store has no files; each fate is taken by one step, in the order in which they were fed; behind them all are good.
func TestFates(t *testing.T) {
	s, e := New(api.Fate{Kind: fail}, api.Fate{})
	want(t, e, api.OK)
	if s.Names() != nil || s.Pending() != 0 {
		t.Fatal(s.Names())
	}
	steps(t, s, 0, 2)
	want(t, s.Feed(api.Fate{Kind: full}), api.OK)
	want(t, s.Feed(), api.OK)
	want(t, s.Feed(api.Fate{Kind: fail}), api.OK)
	steps(t, s, 0, 4)
	for i, e := range []api.Errno{api.ErrDisk, api.OK, api.ErrFull, api.ErrDisk, api.OK, api.OK} {
		if have := s.Create(string(rune('a' + i))); have != e {
			t.Fatalf("step %d: %v, want %v", i, have, e)
		}
		steps(t, s, i+1, max(3-i, 0))
	}
	if !slices.Equal(s.Names(), []string{"b", "e", "f"}) {
		t.Fatal(s.Names())
	}
	want(t, s.Feed(api.Fate{Kind: fail}), api.OK)
	want(t, s.Create("g"), api.ErrDisk)
	want(t, s.Create("g"), api.OK)
}

// P6.1: a fate of no kind is refused, with all that come with it.
func TestFatesOfNoKind(t *testing.T) {
	for _, kind := range []api.FateKind{-1, 3, math.MinInt, math.MaxInt} {
		if s, e := New(api.Fate{}, api.Fate{Kind: kind}); s != nil || e != api.ErrArg {
			t.Fatal(kind, s, e)
		}
		s, _ := New()
		want(t, s.Feed(api.Fate{Kind: fail}, api.Fate{Kind: kind}, api.Fate{}), api.ErrArg)
		steps(t, s, 0, 0)
	}
}

// P6.1: fates that are handed in are neither changed nor kept, spare room included.
func TestFatesAreCopied(t *testing.T) {
	room := []api.Fate{{Kind: fail, Keep: -3}, {Kind: full, Keep: 2}, {Kind: fail, Keep: 9}}
	l := room[:2]
	s, _ := New(l...)
	want(t, s.Feed(l[:1]...), api.OK)
	if !slices.Equal(room, []api.Fate{{Kind: fail, Keep: -3}, {Kind: full, Keep: 2}, {Kind: fail, Keep: 9}}) {
		t.Fatal(room)
	}
	clear(room)
	want(t, s.Create("a"), api.ErrDisk)
	want(t, s.Create("a"), api.ErrFull)
	want(t, s.Create("a"), api.ErrDisk)
	want(t, s.Create("a"), api.OK)
}

// P6.1: Create and Remove: good, there is the file, or none any more, pieces and all; not good, nothing has changed.
func TestCreateRemove(t *testing.T) {
	s := made(t, "xy")
	want(t, s.Write("a", 1, []byte("z")), api.OK)
	for _, k := range []api.FateKind{fail, full} {
		for _, keep := range []int{-1, 0, 1, 7} {
			before := s.Copy()
			want(t, s.Feed(api.Fate{Kind: k, Keep: keep}, api.Fate{Kind: k, Keep: keep}), api.OK)
			want(t, s.Create("b"), came(api.Fate{Kind: k}))
			want(t, s.Remove("a"), came(api.Fate{Kind: k}))
			if !s.Same(before) {
				t.Fatal("changed")
			}
		}
	}
	want(t, s.Remove("a"), api.OK)
	if s.Pending() != 0 || s.Names() != nil {
		t.Fatal(s.Pending(), s.Names())
	}
	if c, _ := s.Crash(1); c.Names() != nil {
		t.Fatal(c.Names())
	}
	want(t, s.Create("a"), api.OK)
	reads(t, s, "a", "")
	pieces(t, s, "a")
	want(t, s.Resize("a", 3), api.OK)
	reads(t, s, "a", noughts(3))
	steps(t, s, 4+16+3, 0)
}

// P6.1: 256 files go, one more does not; it is no step.
func TestFiles(t *testing.T) {
	s, _ := New()
	var names []string
	for i := range 256 {
		name := strings.Repeat(string(rune('a'+i/64)), 1+i%64)
		names = append(names, name)
		want(t, s.Create(name), api.OK)
	}
	slices.Sort(names)
	if !slices.Equal(s.Names(), names) {
		t.Fatal(s.Names())
	}
	want(t, s.Feed(api.Fate{Kind: fail}), api.OK)
	want(t, s.Create("one more"), api.ErrFull)
	want(t, s.Create(names[0]), api.ErrThere)
	steps(t, s, 256, 1)
	want(t, s.Flush(names[0]), api.ErrDisk)
	want(t, s.Remove(names[0]), api.OK)
	want(t, s.Create("one more"), api.OK)
	want(t, s.Create(names[0]), api.ErrFull)
}

// P6.2: a write is cut where sectors begin, and there alone.
func TestWriteIsCut(t *testing.T) {
	for _, c := range []struct {
		at  int64
		n   int
		out []api.Piece
	}{
		{0, 0, nil}, {700, 0, nil},
		{0, 1, []api.Piece{{At: 0, Len: 1}}},
		{0, 512, []api.Piece{{At: 0, Len: 512}}},
		{0, 513, []api.Piece{{At: 0, Len: 512}, {At: 512, Len: 1}}},
		{511, 1, []api.Piece{{At: 511, Len: 1}}},
		{511, 2, []api.Piece{{At: 511, Len: 1}, {At: 512, Len: 1}}},
		{512, 1024, []api.Piece{{At: 512, Len: 512}, {At: 1024, Len: 512}}},
		{1, 511, []api.Piece{{At: 1, Len: 511}}},
		{1, 512, []api.Piece{{At: 1, Len: 511}, {At: 512, Len: 1}}},
		{1000, 1100, []api.Piece{{At: 1000, Len: 24}, {At: 1024, Len: 512}, {At: 1536, Len: 512}, {At: 2048, Len: 52}}},
		{api.MaxFile - 513, 513, []api.Piece{{At: api.MaxFile - 513, Len: 1}, {At: api.MaxFile - 512, Len: 512}}},
	} {
		s := made(t, "")
		b := []byte(strings.Repeat("0123456", 200)[:c.n])
		want(t, s.Write("a", c.at, b), api.OK)
		pieces(t, s, "a", c.out...)
		if s.Pending() != len(c.out) {
			t.Fatal(s.Pending())
		}
		size := int64(0)
		if c.n > 0 {
			size = c.at + int64(c.n)
		}
		if n, e := s.Size("a"); n != size || e != api.OK {
			t.Fatalf("write of %d at %d: size %d %v, want %d", c.n, c.at, n, e, size)
		}
		if size > 0 {
			if have, e := s.Read("a", c.at, c.n); !bytes.Equal(have, b) || e != api.OK {
				t.Fatalf("write of %d at %d is read as %q %v", c.n, c.at, have, e)
			}
		}
		steps(t, s, 4, 0)
	}
}

// P6.2: what lies between the old size and a write is noughts, and lasts; the size lasts at once.
func TestWriteBehindTheSize(t *testing.T) {
	s := made(t, "abc")
	want(t, s.Write("a", 5, []byte("x")), api.OK)
	reads(t, s, "a", "abc\x00\x00x")
	lasts(t, s, "a", "abc"+noughts(3))
	want(t, s.Write("a", 3, []byte("d")), api.OK)
	want(t, s.Write("a", 3, []byte("e")), api.OK)
	pieces(t, s, "a", api.Piece{At: 5, Len: 1}, api.Piece{At: 3, Len: 1}, api.Piece{At: 3, Len: 1})
	reads(t, s, "a", "abce\x00x")
	want(t, s.Write("a", 1030, []byte("y")), api.OK)
	reads(t, s, "a", "abce\x00x"+noughts(1024)+"y")
	lasts(t, s, "a", "abc"+noughts(1028))
}

// P6.2: no bytes: no piece, nothing becomes greater; but it is a step, and takes a fate.
func TestWriteOfNothing(t *testing.T) {
	s := made(t, "abc")
	want(t, s.Feed(api.Fate{Kind: fail, Keep: 5}, api.Fate{Kind: full}), api.OK)
	want(t, s.Write("a", 9, nil), api.ErrDisk)
	want(t, s.Write("a", 0, []byte{}), api.ErrFull)
	want(t, s.Write("a", 4, nil), api.OK)
	want(t, s.Write("a", api.MaxFile, nil), api.OK)
	reads(t, s, "a", "abc")
	pieces(t, s, "a")
	steps(t, s, 7, 0)
}

// P6.2: of a write that is not good the first Keep pieces are written.
func TestWriteKeeps(t *testing.T) {
	b := strings.Repeat("x", 1026)
	for _, k := range []api.FateKind{fail, full} {
		for _, c := range []struct {
			keep, size int
			out        []api.Piece
		}{
			{math.MinInt, 3, nil}, {-1, 3, nil}, {0, 3, nil},
			{1, 512, []api.Piece{{At: 511, Len: 1}}},
			{2, 1024, []api.Piece{{At: 511, Len: 1}, {At: 512, Len: 512}}},
			{3, 1536, []api.Piece{{At: 511, Len: 1}, {At: 512, Len: 512}, {At: 1024, Len: 512}}},
			{4, 1537, []api.Piece{{At: 511, Len: 1}, {At: 512, Len: 512}, {At: 1024, Len: 512}, {At: 1536, Len: 1}}},
			{5, 1537, []api.Piece{{At: 511, Len: 1}, {At: 512, Len: 512}, {At: 1024, Len: 512}, {At: 1536, Len: 1}}},
			{math.MaxInt, 1537, []api.Piece{{At: 511, Len: 1}, {At: 512, Len: 512}, {At: 1024, Len: 512}, {At: 1536, Len: 1}}},
		} {
			s := made(t, "abc")
			want(t, s.Feed(api.Fate{Kind: k, Keep: c.keep}), api.OK)
			want(t, s.Write("a", 511, []byte(b)), came(api.Fate{Kind: k}))
			pieces(t, s, "a", c.out...)
			if c.size == 3 {
				reads(t, s, "a", "abc")
				continue
			}
			reads(t, s, "a", "abc"+noughts(508)+b[:c.size-511])
			lasts(t, s, "a", "abc"+noughts(c.size-3))
		}
	}
	s := made(t, "abc")
	want(t, s.Feed(api.Fate{Keep: 0}, api.Fate{Keep: -4}), api.OK)
	want(t, s.Write("a", 511, []byte(b)), api.OK)
	want(t, s.Flush("a"), api.OK)
	lasts(t, s, "a", "abc"+noughts(508)+b)
}

// P6.2: what is written is not bound to the bytes that were handed in, which are as they were, spare room included.
func TestWriteCopies(t *testing.T) {
	s := made(t, "")
	room := []byte(strings.Repeat("k", 1200))
	want(t, s.Write("a", 500, room[:600]), api.OK)
	want(t, s.Write("a", 1024, room[:512]), api.OK)
	if string(room) != strings.Repeat("k", 1200) {
		t.Fatal(string(room))
	}
	for i := range room {
		room[i] = 'n'
	}
	now := noughts(500) + strings.Repeat("k", 1036)
	reads(t, s, "a", now)
	want(t, s.Flush("a"), api.OK)
	lasts(t, s, "a", now)
}

// P6.2, limits: MaxFile bytes go, one more does not, wherever the write begins.
func TestWriteBounds(t *testing.T) {
	s := made(t, "")
	whole := make([]byte, api.MaxFile+1)
	want(t, s.Feed(api.Fate{Kind: fail, Keep: 1}), api.OK)
	want(t, s.Write("a", 0, whole), api.ErrFull)
	want(t, s.Write("a", 1, whole[:api.MaxFile]), api.ErrFull)
	want(t, s.Write("a", api.MaxFile, whole[:1]), api.ErrFull)
	want(t, s.Write("a", api.MaxFile-1, whole[:2]), api.ErrFull)
	want(t, s.Write("a", math.MaxInt64, whole[:1]), api.ErrFull)
	want(t, s.Write("a", math.MaxInt64-5, whole[:9]), api.ErrFull)
	want(t, s.Write("a", api.MaxFile+1, nil), api.ErrFull)
	steps(t, s, 3, 1)
	reads(t, s, "a", "")
	want(t, s.Write("a", 0, whole[:api.MaxFile]), api.ErrDisk)
	pieces(t, s, "a", api.Piece{At: 0, Len: 512})
	want(t, s.Write("a", api.MaxFile-1, []byte("e")), api.OK)
	if n, _ := s.Size("a"); n != api.MaxFile {
		t.Fatal(n)
	}
	want(t, s.Flush("a"), api.OK)
	if b, e := s.Read("a", api.MaxFile-2, 9); string(b) != "\x00e" || e != api.OK {
		t.Fatal(b, e)
	}
	if b, e := s.Read("a", api.MaxFile, 1); len(b) != 0 || e != api.OK {
		t.Fatal(b, e)
	}
	if _, e := s.Read("a", api.MaxFile+1, 1); e != api.ErrRange {
		t.Fatal(e)
	}
}

// P6.3: a good flush lets all that is read last, of this file alone.
func TestFlush(t *testing.T) {
	s := made(t, "abcdef")
	want(t, s.Create("b"), api.OK)
	want(t, s.Write("b", 0, []byte("q")), api.OK)
	want(t, s.Write("a", 1, []byte("xyz")), api.OK)
	want(t, s.Write("a", 2, []byte("-")), api.OK)
	want(t, s.Write("a", 510, []byte("1234")), api.OK)
	now := "ax-zef" + noughts(504) + "1234"
	reads(t, s, "a", now)
	lasts(t, s, "a", "abcdef"+noughts(508))
	want(t, s.Flush("a"), api.OK)
	reads(t, s, "a", now)
	lasts(t, s, "a", now)
	pieces(t, s, "a")
	if s.Pending() != 1 {
		t.Fatal(s.Pending())
	}
	want(t, s.Flush("a"), api.OK)
	lasts(t, s, "a", now)
	lasts(t, s, "b", "\x00")
	steps(t, s, 10, 0)
}

// P6.3: of a flush that is not good the first Keep pieces last, and are none any more; the others go on being pieces.
func TestFlushKeeps(t *testing.T) {
	for _, k := range []api.FateKind{fail, full} {
		for _, c := range []struct {
			keep, left int
			lasting    string
		}{
			{math.MinInt, 3, "abcdef"}, {-1, 3, "abcdef"}, {0, 3, "abcdef"},
			{1, 2, "axyzef"}, {2, 1, "ax-zef"}, {3, 0, "ax--ef"}, {4, 0, "ax--ef"}, {math.MaxInt, 0, "ax--ef"},
		} {
			s := made(t, "abcdef")
			want(t, s.Write("a", 1, []byte("xyz")), api.OK)
			want(t, s.Write("a", 2, []byte("-")), api.OK)
			want(t, s.Write("a", 3, []byte("-")), api.OK)
			want(t, s.Feed(api.Fate{Kind: k, Keep: c.keep}), api.OK)
			want(t, s.Flush("a"), came(api.Fate{Kind: k}))
			reads(t, s, "a", "ax--ef")
			lasts(t, s, "a", c.lasting)
			all := []api.Piece{{At: 1, Len: 3}, {At: 2, Len: 1}, {At: 3, Len: 1}}
			pieces(t, s, "a", all[3-c.left:]...)
			want(t, s.Write("a", 5, []byte("!")), api.OK)
			reads(t, s, "a", "ax--e!")
			lasts(t, s, "a", c.lasting)
			want(t, s.Flush("a"), api.OK)
			lasts(t, s, "a", "ax--e!")
		}
	}
}

// P6.3: Resize: what lies beyond is gone, of lasting bytes and of pieces; a file that becomes greater has noughts there, which last.
func TestResize(t *testing.T) {
	s := made(t, strings.Repeat("l", 1100))
	want(t, s.Write("a", 500, []byte(strings.Repeat("p", 600))), api.OK)
	want(t, s.Write("a", 100, []byte("q")), api.OK)
	pieces(t, s, "a", api.Piece{At: 500, Len: 12}, api.Piece{At: 512, Len: 512}, api.Piece{At: 1024, Len: 76}, api.Piece{At: 100, Len: 1})
	want(t, s.Resize("a", 1024), api.OK)
	pieces(t, s, "a", api.Piece{At: 500, Len: 12}, api.Piece{At: 512, Len: 512}, api.Piece{At: 100, Len: 1})
	want(t, s.Resize("a", 513), api.OK)
	pieces(t, s, "a", api.Piece{At: 500, Len: 12}, api.Piece{At: 512, Len: 1}, api.Piece{At: 100, Len: 1})
	want(t, s.Resize("a", 505), api.OK)
	pieces(t, s, "a", api.Piece{At: 500, Len: 5}, api.Piece{At: 100, Len: 1})
	want(t, s.Resize("a", 600), api.OK)
	pieces(t, s, "a", api.Piece{At: 500, Len: 5}, api.Piece{At: 100, Len: 1})
	reads(t, s, "a", strings.Repeat("l", 100)+"q"+strings.Repeat("l", 399)+"ppppp"+noughts(95))
	lasts(t, s, "a", strings.Repeat("l", 505)+noughts(95))
	want(t, s.Resize("a", 600), api.OK)
	want(t, s.Resize("a", 101), api.OK)
	pieces(t, s, "a", api.Piece{At: 100, Len: 1})
	want(t, s.Resize("a", 100), api.OK)
	pieces(t, s, "a")
	want(t, s.Resize("a", 101), api.OK)
	lasts(t, s, "a", strings.Repeat("l", 100)+"\x00")
	reads(t, s, "a", strings.Repeat("l", 100)+"\x00")
	want(t, s.Resize("a", 0), api.OK)
	want(t, s.Resize("a", 2), api.OK)
	reads(t, s, "a", "\x00\x00")
	steps(t, s, 15, 0)
}

// P6.3: a piece that was cut lasts as it was cut: what is grown behind it stays noughts.
func TestResizeThenFlush(t *testing.T) {
	for _, end := range []api.Fate{{}, {Kind: fail, Keep: 1}} {
		s := made(t, "")
		want(t, s.Write("a", 0, []byte(strings.Repeat("x", 512))), api.OK)
		want(t, s.Write("a", 512, []byte("y")), api.OK)
		want(t, s.Resize("a", 3), api.OK)
		want(t, s.Resize("a", 600), api.OK)
		want(t, s.Feed(end), api.OK)
		want(t, s.Flush("a"), came(end))
		reads(t, s, "a", "xxx"+noughts(597))
		lasts(t, s, "a", "xxx"+noughts(597))
		pieces(t, s, "a")
	}
}

// P6.3: Resize that is not good changes nothing, whatever Keep is.
func TestResizeFails(t *testing.T) {
	s := made(t, "abcdef")
	want(t, s.Write("a", 4, []byte("xyz")), api.OK)
	before := s.Copy()
	for _, k := range []api.FateKind{fail, full} {
		for _, keep := range []int{-1, 0, 1, 9} {
			for _, size := range []int64{0, 5, 7, 900} {
				want(t, s.Feed(api.Fate{Kind: k, Keep: keep}), api.OK)
				want(t, s.Resize("a", size), came(api.Fate{Kind: k}))
				if !s.Same(before) {
					t.Fatal(k, keep, size)
				}
				reads(t, s, "a", "abcdxyz")
			}
		}
	}
	steps(t, s, 4+32, 0)
}

// P6.3, limits: a file costs what is written to it: many of MaxFile bytes go.
func TestResizeBounds(t *testing.T) {
	s, _ := New()
	for i := range 200 {
		name := string([]byte{byte(1 + i)})
		want(t, s.Create(name), api.OK)
		want(t, s.Resize(name, api.MaxFile), api.OK)
		want(t, s.Resize(name, api.MaxFile+1), api.ErrFull)
		want(t, s.Resize(name, math.MaxInt64), api.ErrFull)
		want(t, s.Resize(name, -1), api.ErrRange)
		want(t, s.Resize(name, math.MinInt64), api.ErrRange)
		if n, e := s.Size(name); n != api.MaxFile || e != api.OK {
			t.Fatal(n, e)
		}
	}
	steps(t, s, 400, 0)
	c, _ := s.Crash()
	if !c.Same(s) || !s.Copy().Same(s) {
		t.Fatal("a crash changes files without pieces")
	}
}
