package stops

import (
	"iter"
	"math"
	"slices"
	"testing"

	"palimpsest/api"
	"palimpsest/store"
)

// first collects the first n of what is told.
func first[T any](all iter.Seq[T], n int) []T {
	var list []T
	for x := range all {
		if len(list) == n {
			break
		}
		list = append(list, x)
	}
	return list
}

// image is what Images tells.
type image struct {
	number int
	left   *store.Store
}

// firstImages collects the first n images.
func firstImages(all iter.Seq2[int, *store.Store], n int) []image {
	var list []image
	for number, left := range all {
		if len(list) == n {
			break
		}
		list = append(list, image{number, left})
	}
	return list
}

// tell goes over the first n ways and images.
func tell(h holds, n int) ([][]int, []image) {
	return first(All(h.s), n), firstImages(Images(h.s), n)
}

// few are stores whose ways can all be gone over.
func few(t *testing.T) []holds {
	t.Helper()
	list := []holds{bare(t), several(t)}
	for pieces := range 11 {
		list = append(list, made(t, pieces))
	}
	return list
}

// equal holds lists of ways against each other.
func equal(a, b [][]int) bool { return slices.EqualFunc(a, b, slices.Equal[[]int]) }

// P7.2, P7.4: All goes over just Count of them, in their order, no two alike, each one with its number.
func TestAll(t *testing.T) {
	for _, h := range few(t) {
		list := slices.Collect(All(h.s))
		if !equal(list, rising(len(h.spots))) {
			t.Fatalf("%d pieces: %v", len(h.spots), list)
		}
		if n, e := Count(h.s); n != int64(len(list)) || e != api.OK {
			t.Fatal(n, len(list))
		}
		for i, way := range list {
			if i > 0 && slices.Compare(list[i-1], way) >= 0 {
				t.Fatal(list[i-1], way)
			}
			if n, e := Number(h.s, way...); n != int64(i) || e != api.OK {
				t.Fatal(i, way, n, e)
			}
			if at, e := At(h.s, int64(i)); !slices.Equal(at, way) || e != api.OK {
				t.Fatal(i, way, at, e)
			}
		}
	}
}

// P7.2: a store without pieces has one way, of no picks.
func TestAllOfNoPieces(t *testing.T) {
	for _, h := range []holds{bare(t), made(t, 0)} {
		ways, images := tell(h, 5)
		if len(ways) != 1 || len(ways[0]) != 0 {
			t.Fatal(ways)
		}
		if len(images) != 1 || images[0].number != 0 || !images[0].left.Same(h.s) || images[0].left == h.s {
			t.Fatal(images)
		}
	}
}

// P7.2: Images tells each way's number and the store that the crash of that way leaves; the old one is as it was.
func TestImages(t *testing.T) {
	for _, h := range few(t) {
		was := h.s.Copy()
		ways := rising(len(h.spots))
		told := 0
		for number, left := range Images(h.s) {
			if number != told || told == len(ways) {
				t.Fatal(number, told)
			}
			way := ways[number]
			if len(ways) <= 64 || number%37 == 0 {
				h.left(t, left, way)
			}
			if crash, _ := h.s.Crash(way...); !left.Same(crash) {
				t.Fatal(number, way)
			}
			told++
		}
		if told != len(ways) || !h.s.Same(was) {
			t.Fatal(told, len(ways))
		}
	}
}

// P7.2: what a crash leaves of pieces over one another, and over bytes that last.
func TestImagesOver(t *testing.T) {
	s, _ := store.New()
	want(t, s.Create("f"), api.OK)
	want(t, s.Write("f", 0, []byte("....")), api.OK)
	want(t, s.Flush("f"), api.OK)
	want(t, s.Write("f", 0, []byte("aaa")), api.OK)
	want(t, s.Write("f", 1, []byte("bbb")), api.OK)
	for number, left := range Images(s) {
		b, e := left.Read("f", 0, 9)
		if string(b) != []string{"....", ".bbb", "aaa.", "abbb"}[number] || e != api.OK {
			t.Fatalf("%d: %q %v", number, b, e)
		}
	}
}

// P7.2: they may be left at any time, and gone through as often as one likes.
func TestLeftAndGoneOverAgain(t *testing.T) {
	h := several(t)
	all, images := All(h.s), Images(h.s)
	ways := rising(5)
	for _, n := range []int{0, 1, 2, 5, 31, 32, 33, 32, 3, 0} {
		if list := first(all, n); !equal(list, ways[:min(n, 32)]) {
			t.Fatal(n, list)
		}
		list := firstImages(images, n)
		if len(list) != min(n, 32) {
			t.Fatal(n, len(list))
		}
		for i, x := range list {
			if x.number != i {
				t.Fatal(i, x.number)
			}
			h.left(t, x.left, ways[i])
		}
	}
}

// P7.2: behind a false nothing more is told.
func TestLeftIsLeft(t *testing.T) {
	for _, h := range []holds{several(t), made(t, 63)} {
		calls := 0
		All(h.s)(func([]int) bool { calls++; return calls < 3 })
		if calls != 3 {
			t.Fatal(calls)
		}
		calls = 0
		Images(h.s)(func(int, *store.Store) bool { calls++; return calls < 3 })
		if calls != 3 {
			t.Fatal(calls)
		}
	}
}

// P7.2: one iterator may be gone over within itself.
func TestWithinItself(t *testing.T) {
	h := made(t, 3)
	all, images := All(h.s), Images(h.s)
	ways := rising(3)
	var list [][]int
	for way := range all {
		if inner := slices.Collect(all); !equal(inner, ways) {
			t.Fatal(inner)
		}
		list = append(list, way)
	}
	if !equal(list, ways) {
		t.Fatal(list)
	}
	number := 0
	for n, left := range images {
		for k, x := range images {
			h.left(t, x, ways[k])
		}
		if n != number {
			t.Fatal(n, number)
		}
		h.left(t, left, ways[n])
		number++
	}
	if number != 8 {
		t.Fatal(number)
	}
}

// changes are what may become of the store of several.
func changes() map[string]func(*store.Store) api.Errno {
	return map[string]func(*store.Store) api.Errno{
		"written": func(s *store.Store) api.Errno { return s.Write("b", 0, []byte("more")) },
		"flushed": func(s *store.Store) api.Errno { return s.Flush("a") },
		"cut":     func(s *store.Store) api.Errno { return s.Resize("a", 4) },
		"gone":    func(s *store.Store) api.Errno { return s.Remove("b") },
		"there":   func(s *store.Store) api.Errno { return s.Create("0") },
	}
}

// P7.2: All tells the ways of the store as it was when All was called, if it is changed ahead of the first one that is told (when is -1), or in between.
func TestAllAsItWas(t *testing.T) {
	for name, change := range changes() {
		for when := -1; when < 32; when++ {
			s := several(t).s
			all := All(s)
			if when < 0 {
				want(t, change(s), api.OK)
			}
			var list [][]int
			for way := range all {
				if len(list) == when {
					want(t, change(s), api.OK)
				}
				list = append(list, way)
			}
			if !equal(list, rising(5)) {
				t.Fatal(name, when, list)
			}
		}
	}
}

// P7.2: Images tells what is left of the store as it was when Images was called, likewise.
func TestImagesAsItWas(t *testing.T) {
	ways := rising(5)
	for name, change := range changes() {
		for when := -1; when < 32; when++ {
			h, was := several(t), several(t)
			images := Images(h.s)
			if when < 0 {
				want(t, change(h.s), api.OK)
			}
			told := 0
			for n, left := range images {
				if told == when {
					want(t, change(h.s), api.OK)
				}
				was.left(t, left, ways[n])
				if n != told {
					t.Fatal(name, when, n)
				}
				told++
			}
			if told != 32 {
				t.Fatal(name, when, told)
			}
		}
	}
}

// P7.2: each way is told in new memory: changing one changes no other, neither behind it nor in another round.
func TestWaysAreNew(t *testing.T) {
	for _, pieces := range []int{1, 4, 63, 70} {
		h := made(t, pieces)
		all := All(h.s)
		clean := first(All(h.s), 16)
		for range 2 {
			var list [][]int
			for way := range all {
				if !slices.Equal(way, clean[len(list)]) {
					t.Fatal(pieces, len(list), way)
				}
				for _, old := range list {
					if !slices.Equal(old, row(pieces, -7)) {
						t.Fatal(old)
					}
				}
				for i := range way {
					way[i] = -7
				}
				rest := way[len(way):cap(way)]
				for i := range rest {
					rest[i] = -8
				}
				if list = append(list, way); len(list) == len(clean) {
					break
				}
			}
			if len(list) != len(clean) {
				t.Fatal(len(list))
			}
		}
	}
}

// P7.2: each store that is told is a new one: changing it changes neither another one nor the one that was handed in.
func TestImagesAreNew(t *testing.T) {
	h := several(t)
	was := h.s.Copy()
	images := Images(h.s)
	ways := rising(5)
	for range 2 {
		list := firstImages(images, 32)
		for i, x := range list {
			h.left(t, x.left, ways[i])
			want(t, x.left.Write("a", 0, make([]byte, 1500)), api.OK)
			want(t, x.left.Write("b", 1, []byte("changed")), api.OK)
			want(t, x.left.Flush("a"), api.OK)
			want(t, x.left.Flush("b"), api.OK)
			want(t, x.left.Resize("c", 0), api.OK)
			want(t, x.left.Remove("none"), api.OK)
			if !h.s.Same(was) {
				t.Fatal(i, "the old one is changed")
			}
		}
	}
	changed := 0
	for n, left := range images {
		h.left(t, left, ways[n])
		want(t, left.Remove("a"), api.OK)
		changed++
	}
	if changed != 32 || !h.s.Same(was) {
		t.Fatal(changed)
	}
}

// P7.2: fates that wait in the store become of no step of what is told.
func TestImagesHaveNoFates(t *testing.T) {
	h := several(t)
	want(t, h.s.Feed(api.Fate{Kind: api.FateFail}, api.Fate{Kind: api.FateFull}), api.OK)
	for _, left := range Images(h.s) {
		want(t, left.Create("new"), api.OK)
		want(t, left.Flush("new"), api.OK)
	}
	if _, fates := h.s.Steps(); fates != 2 {
		t.Fatal(fates)
	}
}

// P7.2: with 62 pieces and with more they go on for as long as they are asked, by the same order and the same numbers.
func TestManyPieces(t *testing.T) {
	for _, pieces := range []int{61, 62, 63, 64, 65, 128, 300} {
		h := made(t, pieces)
		ways, images := tell(h, 600)
		if len(ways) != 600 || len(images) != 600 {
			t.Fatal(pieces, len(ways), len(images))
		}
		low := rising(10)
		for i := range 600 {
			if want := row(pieces-10, 0, low[i]...); !slices.Equal(ways[i], want) {
				t.Fatal(pieces, i, ways[i])
			}
			if images[i].number != i {
				t.Fatal(pieces, i, images[i].number)
			}
			if i%29 == 0 {
				h.left(t, images[i].left, ways[i])
			}
		}
	}
}

// numberedWay is a way with its number.
type numberedWay struct {
	n   int
	way []int
}

// firstFrom collects the first n ways from a way of that number on.
func firstFrom(number int64, way []int, n int) []numberedWay {
	var list []numberedWay
	for number, way := range from(number, way) {
		if len(list) == n {
			break
		}
		list = append(list, numberedWay{number, way})
	}
	return list
}

// P7.2: with 62 picks or fewer the last way is the last; with more they go on with the first one.
func TestBehindTheLast(t *testing.T) {
	for _, pieces := range []int{0, 1, 2, 61, 62} {
		last := int64(1)<<pieces - 1
		list := firstFrom(last, row(pieces, 1), 3)
		if len(list) != 1 || list[0].n != int(last) || !slices.Equal(list[0].way, row(pieces, 1)) {
			t.Fatal(pieces, list)
		}
	}
	for _, pieces := range []int{63, 64, 100} {
		list := firstFrom(5, row(pieces, 1), 3)
		if len(list) != 3 || !slices.Equal(list[1].way, row(pieces, 0)) || !slices.Equal(list[2].way, row(pieces-1, 0, 1)) {
			t.Fatal(pieces, list)
		}
		if list[0].n != 5 || list[1].n != 6 || list[2].n != 7 {
			t.Fatal(pieces, list)
		}
	}
}

// P7.2: numbers rise by 1 up to 2^62 and go on from 0 then, while the ways go on in their order.
func TestBehindTheLastNumber(t *testing.T) {
	list := firstFrom(1<<62-1, row(1, 0, row(62, 1)...), 5)
	for i, x := range []struct {
		n   int64
		way []int
	}{
		{1<<62 - 1, row(1, 0, row(62, 1)...)},
		{1 << 62, row(1, 1, row(62, 0)...)},
		{0, row(1, 1, row(61, 0, 1)...)},
		{1, row(1, 1, row(60, 0, 1, 0)...)},
		{2, row(1, 1, row(60, 0, 1, 1)...)},
	} {
		if int64(list[i].n) != x.n || !slices.Equal(list[i].way, x.way) {
			t.Fatal(i, list[i])
		}
	}
	for _, n := range []int64{0, 1, 2, math.MaxInt32, 1<<62 - 2} {
		if after(n) != n+1 {
			t.Fatal(n, after(n))
		}
	}
}
