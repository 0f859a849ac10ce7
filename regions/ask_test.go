package regions

import (
	"math"
	"testing"

	"palimpsest/api"
)

// P12.2: the rows of the chapter's examples, and others about them.
func TestAskRows(t *testing.T) {
	r := made(t, region(1, 0, 512), region(2, 1024, 512), region(3, 512, 512))
	for _, x := range []struct {
		at, n int64
		but   []int
		want  api.Region
	}{
		{500, 600, nil, region(1, 0, 512)},
		{500, 600, []int{1}, region(3, 512, 512)},
		{500, 600, []int{1, 3}, region(2, 1024, 512)},
		{500, 600, []int{3, 1, 1, 3}, region(2, 1024, 512)},
		{500, 524, []int{1, 3}, api.Region{}},
		{500, 525, []int{1, 3}, region(2, 1024, 512)},
		{500, 600, []int{1, 2, 3}, api.Region{}},
		{500, 600, []int{2, 4, 16}, region(1, 0, 512)},
		{500, 600, []int{1, 2, 3, 4, 5, 6, 7, 8, 9, 10, 11, 12, 13, 14, 15, 16}, api.Region{}},
		{0, 0, nil, api.Region{}},
		{100, 0, nil, api.Region{}},
		{512, 0, nil, api.Region{}},
		{0, 1, nil, region(1, 0, 512)},
		{511, 1, nil, region(1, 0, 512)},
		{512, 1, nil, region(3, 512, 512)},
		{1535, 1, nil, region(2, 1024, 512)},
		{1536, 1, nil, api.Region{}},
		{1536, top - 1536, nil, api.Region{}},
		{1535, top - 1535, nil, region(2, 1024, 512)},
		{0, top, []int{1, 3}, region(2, 1024, 512)},
	} {
		if one, ok, no := r.Ask(x.at, x.n, x.but...); one != x.want || ok != (x.want.Kind > 0) || no != api.OK {
			t.Errorf("Ask(%d, %d, %v): %v %v %v", x.at, x.n, x.but, one, ok, no)
		}
	}
}

// P12.2: bytes that touch a region's begin or end alone are not in it; one byte more is.
func TestAskAtEdges(t *testing.T) {
	one := region(7, 100, 50)
	r := made(t, one)
	for _, x := range []struct {
		at, n int64
		in    bool
	}{
		{0, 100, false}, {0, 101, true}, {90, 10, false}, {90, 11, true}, {99, 1, false}, {99, 2, true}, {100, 1, true}, {100, 0, false}, {120, 0, false}, {120, 1, true}, {149, 1, true}, {149, 100, true}, {150, 1, false}, {150, 0, false}, {150, 1000, false}, {0, 1000, true}, {100, 50, true}, {101, 48, true},
	} {
		got, ok, no := r.Ask(x.at, x.n)
		if ok != x.in || no != api.OK || (ok && got != one) || (!ok && got != api.Region{}) {
			t.Errorf("Ask(%d, %d): %v %v %v", x.at, x.n, got, ok, no)
		}
	}
}

// P12.2: places and lengths that may not be, at all edges, in any order; without regions, too.
func TestAskOfWhatMayNotBe(t *testing.T) {
	for _, r := range []*Regions{New(), made(t, region(1, 0, top)), made(t, region(1, 0, 512), region(2, top-512, 512))} {
		was := gathered(r.All())
		for _, at := range odd() {
			for _, n := range odd() {
				one, ok, no := r.Ask(at, n)
				if (no == api.ErrArg) != (at < 0 || n < 0 || wide(at, n)) || (no != api.OK && no != api.ErrArg) {
					t.Errorf("Ask(%d, %d): %v", at, n, no)
				}
				if (no != api.OK || !ok) && one != (api.Region{}) || no != api.OK && ok {
					t.Errorf("Ask(%d, %d): %v %v beside %v", at, n, one, ok, no)
				}
			}
		}
		has(t, r, was...)
	}
}

// P12.2: kinds that may not be are refused wherever they stand, of no bytes too.
func TestAskButOddKinds(t *testing.T) {
	for _, r := range []*Regions{New(), made(t, region(1, 0, 512))} {
		for _, k := range []int{0, 17, -1, 18, 32, 256, 257, 1 << 32, 1<<32 + 1, math.MaxInt, math.MinInt, math.MinInt + 1} {
			for _, but := range [][]int{{k}, {1, k}, {k, 1}, {2, k, 3}, {1, 2, 3, 4, 5, 6, 7, 8, 9, 10, 11, 12, 13, 14, 15, 16, k}} {
				for _, n := range []int64{0, 1, 600} {
					if one, ok, no := r.Ask(0, n, but...); one != (api.Region{}) || ok || no != api.ErrArg {
						t.Errorf("Ask(0, %d, %v): %v %v %v", n, but, one, ok, no)
					}
				}
			}
		}
		for k := 1; k <= 16; k++ {
			if _, ok, no := r.Ask(0, 1, k, k); no != api.OK || ok != (k != 1 && r.End() > 0) {
				t.Error(k, ok, no)
			}
		}
	}
}

// P12.2: each kind is left out by its own number alone.
func TestAskButEachKind(t *testing.T) {
	var l []api.Region
	for k := 1; k <= 16; k++ {
		l = append(l, region(k, int64(10*k), 5))
	}
	r := made(t, l...)
	but := []int{}
	for k := 1; k <= 16; k++ {
		if one, ok, no := r.Ask(0, 1000, but...); one != l[k-1] || !ok || no != api.OK {
			t.Error(but, one, ok, no)
		}
		if one, ok, no := r.Ask(l[k-1].At, 5, k); one != (api.Region{}) || ok || no != api.OK {
			t.Error(k, one, ok, no)
		}
		for other := 1; other <= 16; other++ {
			if one, ok, no := r.Ask(l[k-1].At, 5, other); ok != (other != k) || no != api.OK || ok && one != l[k-1] {
				t.Error(k, other, one, ok, no)
			}
		}
		but = append(but, k)
	}
	if one, ok, no := r.Ask(0, 1000, but...); one != (api.Region{}) || ok || no != api.OK {
		t.Error(one, ok, no)
	}
}

// P12.2: the kinds are the caller's: they stay as they are.
func TestAskLeavesKinds(t *testing.T) {
	whole := []int{3, 1, 2, 99}
	r := made(t, region(1, 0, 512))
	if _, ok, no := r.Ask(0, 1, whole[:3]...); ok || no != api.OK {
		t.Error(ok, no)
	}
	if whole[0] != 3 || whole[1] != 1 || whole[2] != 2 || whole[3] != 99 {
		t.Error(whole)
	}
}

// P12.2: Of at a region's first and last byte, one ahead, one behind, and where no bytes are.
func TestOf(t *testing.T) {
	a, b, c := region(1, 10, 5), region(2, 15, 1), region(16, top-3, 3)
	r := made(t, c, a, b)
	for _, x := range []struct {
		at   int64
		want api.Region
	}{
		{0, api.Region{}}, {9, api.Region{}}, {10, a}, {12, a}, {14, a}, {15, b}, {16, api.Region{}}, {17, api.Region{}},
		{top - 4, api.Region{}}, {top - 3, c}, {top - 1, c}, {top, api.Region{}}, {top + 1, api.Region{}},
		{-1, api.Region{}}, {-10, api.Region{}}, {math.MinInt64, api.Region{}}, {math.MaxInt64, api.Region{}}, {math.MaxInt64 - 1, api.Region{}}, {1 << 62, api.Region{}},
	} {
		if one, ok := r.Of(x.at); one != x.want || ok != (x.want.Kind > 0) {
			t.Errorf("Of(%d): %v %v", x.at, one, ok)
		}
	}
	for _, at := range odd() {
		if one, ok := New().Of(at); one != (api.Region{}) || ok {
			t.Error(at, one, ok)
		}
		if _, ok := made(t, region(1, 0, top)).Of(at); ok != (at >= 0 && at < top) {
			t.Error(at, ok)
		}
	}
}

// P12.2: of many regions each one is found at its bytes, and none between them.
func TestOfMany(t *testing.T) {
	for _, n := range []int{1, 2, 3, 7, 8, 9, 1000, 65536} {
		l := bytewise(n)
		r := made(t, l...)
		for i, one := range l {
			if got, ok := r.Of(one.At); got != one || !ok {
				t.Fatal(n, i, got, ok)
			}
			if got, ok := r.Of(one.At + 1); got != (api.Region{}) || ok {
				t.Fatal(n, i, got, ok)
			}
		}
	}
}
