package regions

import (
	"math"
	"slices"
	"testing"

	"palimpsest/api"
)

// refused are regions that may not be.
func refused() []api.Region {
	l := []api.Region{{}, region(0, 0, 1), region(17, 0, 1), region(-1, 0, 1), region(math.MaxInt, 0, 1), region(math.MinInt, 0, 1), region(1<<32+1, 0, 1), region(257, 0, 1)}
	l = append(l, region(1, -1, 1), region(1, -1, 2), region(1, -512, 1024), region(1, math.MinInt64, 1), region(1, math.MinInt64, math.MaxInt64))
	l = append(l, region(1, 0, 0), region(1, 5, 0), region(1, 0, -1), region(1, 512, -512), region(1, 0, math.MinInt64), region(1, math.MinInt64, math.MinInt64))
	l = append(l, region(1, top, 1), region(1, top, 0), region(1, top-1, 2), region(1, 0, top+1), region(1, 1, top), region(1, top+1, 1), region(1, top/2, top/2+1), region(1, top+5, -5))
	return append(l, region(1, math.MaxInt64, 1), region(1, 1, math.MaxInt64), region(1, math.MaxInt64, math.MaxInt64), region(1, 1<<62, 1<<62), region(1, math.MaxInt64-511, 512), region(1, 0, math.MaxInt64))
}

// taken are regions that may be, at the edges.
func taken() []api.Region {
	return []api.Region{region(1, 0, 1), region(16, 0, 1), region(9, 0, top), region(1, top-1, 1), region(2, 1, top-1), region(3, top/2, top/2), region(4, 512, 512)}
}

// P12.1: New is without regions, each one apart.
func TestNew(t *testing.T) {
	r, o := New(), New()
	if r == nil || o == nil || r == o {
		t.Fatal("none", r, o)
	}
	has(t, r)
	if n, no := r.Put(region(1, 0, 1)); n != 1 || no != api.OK {
		t.Error(n, no)
	}
	has(t, r, region(1, 0, 1))
	has(t, o)
	has(t, New())
}

// P12.1: the rows of the chapter's examples.
func TestExamples(t *testing.T) {
	r := made(t, region(1, 0, 512), region(2, 1024, 512))
	if n, no := r.Put(region(3, 1535, 1)); n != 0 || no != api.ErrLies {
		t.Error(n, no)
	}
	if n, no := r.Put(region(3, 512, 512)); n != 1 || no != api.OK {
		t.Error(n, no)
	}
	if one, no := r.Take(512); one != region(3, 512, 512) || no != api.OK {
		t.Error(one, no)
	}
	if l := gapped(r.Gaps(4096)); !slices.Equal(l, []gap{{512, 512}, {1536, 2560}}) {
		t.Error(l)
	}
	if many, bytes := r.Count(2); many != 1 || bytes != 512 || r.End() != 1536 {
		t.Error(many, bytes, r.End())
	}
	if r.Move(0, 600) != api.ErrLies || r.Move(0, 512) != api.OK || r.Move(7, 0) != api.ErrNone {
		t.Error("Move")
	}
	has(t, r, region(1, 512, 512), region(2, 1024, 512))
}

// P12.1: which regions may be, by their kinds, places and lengths at all edges.
func TestPutOfWhatMayBe(t *testing.T) {
	for _, one := range taken() {
		has(t, made(t, one), one)
	}
	for kind := 1; kind <= 16; kind++ {
		has(t, made(t, region(kind, 7, 9)), region(kind, 7, 9))
	}
	for _, one := range refused() {
		r := New()
		if n, no := r.Put(one); n != 0 || no != api.ErrArg {
			t.Errorf("Put(%v): %d %v", one, n, no)
		}
		has(t, r)
	}
	for _, at := range odd() {
		for _, n := range odd() {
			r, one := New(), region(5, at, n)
			_, no := r.Put(one)
			if (no == api.OK) != allowed(one) {
				t.Errorf("Put(%v): %v", one, no)
			}
			if no != api.OK && no != api.ErrArg {
				t.Error(one, no)
			}
		}
	}
}

// P12.1: if one of many may not be, none is put, wherever it stands, and though one ahead of it would lie over another one.
func TestPutOfManyWithOneThatMayNotBe(t *testing.T) {
	right := []api.Region{region(1, 10, 5), region(2, 0, 5), region(3, 20, 5), region(4, 12, 1)}
	for _, one := range refused() {
		for i := range len(right) + 1 {
			r := made(t, region(9, 100, 1))
			if n, no := r.Put(slices.Insert(slices.Clone(right), i, one)...); n != 0 || no != api.ErrArg {
				t.Errorf("%v at %d: %d %v", one, i, n, no)
			}
			has(t, r, region(9, 100, 1))
		}
	}
}

// P12.1: if one of many would lie over another one, of this call or of an earlier one, those ahead of it are put, those behind it are not.
func TestPutOfManyWithOneThatLiesOver(t *testing.T) {
	for _, over := range []api.Region{region(5, 100, 1), region(5, 99, 2), region(5, 109, 1), region(5, 109, 9), region(5, 90, 90), region(5, 103, 2)} {
		right := []api.Region{region(1, 10, 5), region(2, 0, 5), region(3, 120, 5), region(4, 60, 1)}
		for i := range len(right) + 1 {
			r := made(t, region(9, 100, 10))
			if n, no := r.Put(slices.Insert(slices.Clone(right), i, over)...); n != i || no != api.ErrLies {
				t.Errorf("%v at %d: %d %v", over, i, n, no)
			}
			want := append([]api.Region{region(9, 100, 10)}, right[:i]...)
			slices.SortFunc(want, func(a, b api.Region) int { return int(a.At - b.At) })
			has(t, r, want...)
		}
	}
	r := New()
	if n, no := r.Put(region(1, 0, 5), region(1, 9, 5), region(1, 4, 1), region(1, 20, 1)); n != 2 || no != api.ErrLies {
		t.Error(n, no)
	}
	has(t, r, region(1, 0, 5), region(1, 9, 5))
	if n, no := r.Put(region(2, 0, 5), region(2, 9, 5)); n != 0 || no != api.ErrLies {
		t.Error(n, no)
	}
	has(t, r, region(1, 0, 5), region(1, 9, 5))
}

// P12.1: none, one and many; ahead of all, behind all, between two.
func TestPutWhere(t *testing.T) {
	r := New()
	for _, l := range [][]api.Region{nil, {}} {
		if n, no := r.Put(l...); n != 0 || no != api.OK {
			t.Error(n, no)
		}
	}
	has(t, r)
	for _, x := range []struct {
		one  api.Region
		want []api.Region
	}{
		{region(3, 30, 10), []api.Region{region(3, 30, 10)}},
		{region(2, 20, 5), []api.Region{region(2, 20, 5), region(3, 30, 10)}},
		{region(4, 50, 5), []api.Region{region(2, 20, 5), region(3, 30, 10), region(4, 50, 5)}},
		{region(5, 25, 5), []api.Region{region(2, 20, 5), region(5, 25, 5), region(3, 30, 10), region(4, 50, 5)}},
		{region(6, 41, 1), []api.Region{region(2, 20, 5), region(5, 25, 5), region(3, 30, 10), region(6, 41, 1), region(4, 50, 5)}},
	} {
		if n, no := r.Put(x.one); n != 1 || no != api.OK {
			t.Error(x.one, n, no)
		}
		has(t, r, x.want...)
	}
}

// P12.1: between two that leave just its room, one byte more, one byte less at either side.
func TestPutBetween(t *testing.T) {
	for room := int64(1); room < 9; room++ {
		for at := int64(8); at < 20; at++ {
			for n := int64(1); n < 12; n++ {
				one, want := region(3, at, n), []api.Region{region(1, 0, 10), region(2, 10+room, 10)}
				r := made(t, want...)
				wantN, wantNo := 0, api.ErrLies
				if at >= 10 && at+n <= 10+room {
					wantN, wantNo, want = 1, api.OK, slices.Insert(want, 1, one)
				}
				if n, no := r.Put(one); n != wantN || no != wantNo {
					t.Error(room, one, n, no)
				}
				has(t, r, want...)
			}
		}
	}
}

// P12.1: what is handed in is not changed, nor kept, spare room behind it included.
func TestPutOfAList(t *testing.T) {
	whole := []api.Region{region(1, 10, 5), region(2, 0, 5), region(3, 20, 5), region(4, 40, 1), region(5, 50, 1)}
	was := slices.Clone(whole)
	r := New()
	if n, no := r.Put(whole[:3]...); n != 3 || no != api.OK {
		t.Error(n, no)
	}
	if n, no := r.Put(region(6, 6, 1), region(7, 30, 1)); n != 2 || no != api.OK {
		t.Error(n, no)
	}
	if one, no := r.Take(0); one != region(2, 0, 5) || no != api.OK {
		t.Error(one, no)
	}
	if !slices.Equal(whole, was) {
		t.Error("the list has changed", whole)
	}
	clear(whole)
	has(t, r, region(6, 6, 1), region(1, 10, 5), region(3, 20, 5), region(7, 30, 1))
}

// bytewise are n regions of one byte each, with a byte free behind each of them.
func bytewise(n int) []api.Region {
	l := make([]api.Region, n)
	for i := range l {
		l[i] = region(1+i%16, int64(2*i), 1)
	}
	return l
}

// P12.1: as many as may be go in, in any order, at once or one by one; then no more do, and that is told ahead of their lying over another one.
func TestPutOfAsManyAsMayBe(t *testing.T) {
	const most = 65536
	l := bytewise(most + 1)
	turned := slices.Clone(l[:most])
	slices.Reverse(turned)
	for _, list := range [][]api.Region{l[:most], turned} {
		r := made(t, list...)
		has(t, r, l[:most]...)
		full(t, r, l[:most])
	}
	r := New()
	for i := range most {
		if n, no := r.Put(l[i]); n != 1 || no != api.OK {
			t.Fatal(i, n, no)
		}
	}
	full(t, r, l[:most])
	r = New()
	if n, no := r.Put(l...); n != most || no != api.ErrFull {
		t.Error(n, no)
	}
	has(t, r, l[:most]...)
	r = New()
	if n, no := r.Put(append(slices.Clone(l), api.Region{})...); n != 0 || no != api.ErrArg {
		t.Error(n, no)
	}
	has(t, r)
}

// full holds one that has as many as may be against the words.
func full(t *testing.T, r *Regions, l []api.Region) {
	t.Helper()
	for _, one := range []api.Region{region(1, 1, 1), region(1, 2*int64(len(l)), 1), l[0], l[len(l)/2], region(1, 0, top)} {
		if n, no := r.Put(one); n != 0 || no != api.ErrFull {
			t.Error(one, n, no)
		}
		if n, no := r.Put(one, api.Region{}); n != 0 || no != api.ErrArg {
			t.Error(one, n, no)
		}
	}
	if n, no := r.Put(); n != 0 || no != api.OK {
		t.Error(n, no)
	}
	has(t, r, l...)
	if r.Move(0, 1) != api.OK || r.Move(2, 1) != api.ErrLies || r.Move(1, 0) != api.OK {
		t.Error("Move")
	}
	if one, no := r.Take(2); one != l[1] || no != api.OK {
		t.Error(one, no)
	}
	if n, no := r.Put(region(1, 0, 1)); n != 0 || no != api.ErrLies {
		t.Error(n, no)
	}
	if n, no := r.Put(l[1], region(1, 3, 1)); n != 1 || no != api.ErrFull {
		t.Error(n, no)
	}
	has(t, r, l...)
}

// three is one with three regions.
func three(t *testing.T) (*Regions, []api.Region) {
	l := []api.Region{region(1, 10, 5), region(2, 20, 5), region(3, 30, 5)}
	return made(t, l...), l
}

// P12.1: Take of a place at which a region begins, be it the first, a middle one, the last, the only one; all else is ErrNone, and stays.
func TestTake(t *testing.T) {
	for i := range 3 {
		r, l := three(t)
		if one, no := r.Take(l[i].At); one != l[i] || no != api.OK {
			t.Error(one, no)
		}
		has(t, r, slices.Delete(slices.Clone(l), i, i+1)...)
		if one, no := r.Take(l[i].At); one != (api.Region{}) || no != api.ErrNone {
			t.Error("twice", one, no)
		}
		if n, no := r.Put(l[i]); n != 1 || no != api.OK {
			t.Error("back", n, no)
		}
		has(t, r, l...)
	}
	r, l := three(t)
	for _, at := range append(odd(), 9, 11, 12, 14, 15, 19, 21, 24, 25, 29, 31, 34, 35, 36) {
		if one, no := r.Take(at); one != (api.Region{}) || no != api.ErrNone {
			t.Error(at, one, no)
		}
	}
	has(t, r, l...)
	for _, one := range taken() {
		r := made(t, one)
		if got, no := r.Take(one.At); got != one || no != api.OK {
			t.Error(got, no)
		}
		has(t, r)
		if got, no := r.Take(one.At); got != (api.Region{}) || no != api.ErrNone {
			t.Error(got, no)
		}
		if n, no := r.Put(one); n != 1 || no != api.OK {
			t.Error(n, no)
		}
	}
	if one, no := New().Take(0); one != (api.Region{}) || no != api.ErrNone {
		t.Error(one, no)
	}
}

// P12.1: Move by rows, over three regions of 5 bytes at 10, 20 and 30.
func TestMoveRows(t *testing.T) {
	for _, x := range []struct {
		at, to int64
		no     api.Errno
	}{
		{10, 10, api.OK}, {20, 20, api.OK}, {30, 30, api.OK},
		{10, 0, api.OK}, {10, 5, api.OK}, {10, 6, api.OK}, {10, 14, api.OK}, {10, 15, api.OK}, {10, 16, api.ErrLies}, {10, 20, api.ErrLies}, {10, 24, api.ErrLies}, {10, 25, api.OK}, {10, 26, api.ErrLies}, {10, 35, api.OK}, {10, 1000, api.OK},
		{20, 14, api.ErrLies}, {20, 15, api.OK}, {20, 18, api.OK}, {20, 22, api.OK}, {20, 25, api.OK}, {20, 26, api.ErrLies}, {20, 34, api.ErrLies}, {20, 35, api.OK}, {20, 5, api.OK}, {20, 6, api.ErrLies}, {20, 0, api.OK},
		{30, 0, api.OK}, {30, 5, api.OK}, {30, 10, api.ErrLies}, {30, 15, api.OK}, {30, 25, api.OK}, {30, 24, api.ErrLies}, {30, 29, api.OK}, {30, 34, api.OK}, {30, 35, api.OK},
		{30, top - 5, api.OK}, {10, top - 5, api.OK}, {10, top - 4, api.ErrArg}, {20, top, api.ErrArg}, {20, top + 1, api.ErrArg}, {20, -1, api.ErrArg}, {20, -5, api.ErrArg}, {10, math.MinInt64, api.ErrArg}, {10, math.MaxInt64, api.ErrArg}, {10, math.MaxInt64 - 4, api.ErrArg},
		{0, 0, api.ErrNone}, {11, 0, api.ErrNone}, {14, 14, api.ErrNone}, {15, 0, api.ErrNone}, {9, 9, api.ErrNone}, {-1, 0, api.ErrNone}, {-1, -1, api.ErrNone}, {7, -1, api.ErrNone}, {12, top, api.ErrNone}, {35, 20, api.ErrNone}, {math.MinInt64, 0, api.ErrNone}, {math.MaxInt64, math.MaxInt64, api.ErrNone}, {top, 0, api.ErrNone},
	} {
		r, l := three(t)
		if no := r.Move(x.at, x.to); no != x.no {
			t.Errorf("Move(%d, %d): %v, want %v", x.at, x.to, no, x.no)
		}
		if i := slices.IndexFunc(l, func(one api.Region) bool { return one.At == x.at }); x.no == api.OK {
			l[i].At = x.to
			slices.SortFunc(l, func(a, b api.Region) int { return int(a.At - b.At) })
		}
		has(t, r, l...)
	}
}

// P12.1: the only one may go anywhere where it is a region, and back.
func TestMoveOfTheOnlyOne(t *testing.T) {
	for _, one := range taken() {
		for _, to := range odd() {
			r, there := made(t, one), one
			there.At = to
			no := r.Move(one.At, to)
			if !allowed(there) {
				if no != api.ErrArg {
					t.Error(one, to, no)
				}
				has(t, r, one)
				continue
			}
			if no != api.OK {
				t.Error(one, to, no)
			}
			has(t, r, there)
			if no := r.Move(to, one.At); no != api.OK {
				t.Error(one, to, no)
			}
			has(t, r, one)
		}
	}
}
