package stops

import (
	"math"
	"math/rand"
	"slices"
	"testing"

	"palimpsest/api"
	"palimpsest/store"
)

// nothings are the stores that are none.
func nothings() map[string]*store.Store {
	return map[string]*store.Store{"nil": nil, "zero": {}}
}

// P7.1: of p pieces there are 2^p ways, as long as there are not more than 62.
func TestCount(t *testing.T) {
	if n, e := Count(bare(t).s); n != 1 || e != api.OK {
		t.Fatal(n, e)
	}
	if n, e := Count(several(t).s); n != 32 || e != api.OK {
		t.Fatal(n, e)
	}
	ways := int64(1)
	for pieces := range 63 {
		if n, e := Count(made(t, pieces).s); n != ways || e != api.OK {
			t.Fatalf("%d pieces: %d %v, want %d", pieces, n, e, ways)
		}
		ways *= 2
	}
	for _, pieces := range []int{63, 64, 65, 127, 128, 300, 1000} {
		if n, e := Count(made(t, pieces).s); n != 0 || e != api.ErrLong {
			t.Fatalf("%d pieces: %d %v", pieces, n, e)
		}
	}
}

// P7.1: pieces are counted as they are now.
func TestCountGoesOn(t *testing.T) {
	s := several(t).s
	counts := func(ways int64) {
		t.Helper()
		if n, e := Count(s); n != ways || e != api.OK {
			t.Fatal(n, e)
		}
	}
	want(t, s.Write("none", 511, []byte("xy")), api.OK)
	counts(128)
	want(t, s.Flush("a"), api.OK)
	counts(32)
	want(t, s.Resize("b", 1), api.OK)
	counts(16)
	want(t, s.Remove("none"), api.OK)
	counts(4)
	want(t, s.Flush("b"), api.OK)
	want(t, s.Flush("c"), api.OK)
	counts(1)
}

// P7.1: Plain tells as many picks as there are pieces, each 0 or 1.
func TestPlain(t *testing.T) {
	for _, c := range []struct {
		h           holds
		picks, want []int
	}{
		{bare(t), nil, nil},
		{bare(t), []int{1, 2, 3}, nil},
		{made(t, 0), nil, nil},
		{made(t, 0), []int{1}, nil},
		{made(t, 1), nil, []int{0}},
		{made(t, 1), []int{0}, []int{0}},
		{made(t, 1), []int{1}, []int{1}},
		{made(t, 1), []int{2, 1}, []int{0}},
		{made(t, 2), []int{7, 6, 5}, []int{1, 0}},
		{made(t, 2), []int{7}, []int{1, 0}},
		{made(t, 2), []int{0, 3}, []int{0, 1}},
		{made(t, 3), []int{math.MaxInt, math.MaxInt - 1, math.MaxInt - 2}, []int{1, 0, 1}},
		{several(t), []int{2, 3}, []int{0, 1, 0, 0, 0}},
		{several(t), []int{1, 1, 1, 1, 1, 1, 1}, []int{1, 1, 1, 1, 1}},
		{made(t, 62), row(62, 3), row(62, 1)},
		{made(t, 63), row(63, 3), row(63, 1)},
		{made(t, 63), nil, row(63, 0)},
		{made(t, 200), row(150, 5, 2, 1), row(150, 1, row(1, 0, row(1, 1, row(48, 0)...)...)...)},
	} {
		if way, e := Plain(c.h.s, c.picks...); !slices.Equal(way, c.want) || e != api.OK {
			t.Fatalf("%v of %d pieces: %v %v, want %v", c.picks, len(c.h.spots), way, e, c.want)
		}
	}
}

// P7.1: the way of Plain leaves the same store as the picks, and that is what the words say of them.
func TestPlainLeavesTheSame(t *testing.T) {
	r := rand.New(rand.NewSource(1))
	for _, h := range []holds{bare(t), made(t, 0), made(t, 1), made(t, 3), several(t), made(t, 62), made(t, 63), made(t, 100)} {
		for range 50 {
			picks := make([]int, r.Intn(2*len(h.spots)+3))
			for i := range picks {
				picks[i] = r.Intn(5) * (1 + r.Intn(1000))
			}
			way, e := Plain(h.s, picks...)
			want(t, e, api.OK)
			if len(way) != len(h.spots) {
				t.Fatal(way)
			}
			byPicks, e := h.s.Crash(picks...)
			want(t, e, api.OK)
			byWay, e := h.s.Crash(way...)
			want(t, e, api.OK)
			if !byPicks.Same(byWay) {
				t.Fatalf("%v and %v leave others", picks, way)
			}
			h.left(t, byWay, way)
		}
	}
}

// P7.1: a pick below 0 is refused, wherever it stands, though no piece takes it; this is told ahead of there being too many pieces.
func TestPicksBelow(t *testing.T) {
	for _, h := range []holds{bare(t), made(t, 0), made(t, 1), made(t, 2), several(t), made(t, 62), made(t, 63), made(t, 100)} {
		for _, picks := range [][]int{{-1}, {math.MinInt}, {1, -2}, {0, 0, 0, 1, 1, 1, -3, 1}, row(200, 1, -1)} {
			if way, e := Plain(h.s, picks...); way != nil || e != api.ErrArg {
				t.Fatal(picks, way, e)
			}
			if n, e := Number(h.s, picks...); n != 0 || e != api.ErrArg {
				t.Fatal(picks, n, e)
			}
		}
	}
}

// P7.1: a number is how many ways are ahead: the first pick weighs most.
func TestNumber(t *testing.T) {
	for _, c := range []struct {
		h     holds
		picks []int
		want  int64
	}{
		{bare(t), nil, 0},
		{bare(t), []int{1}, 0},
		{made(t, 0), []int{1, 1}, 0},
		{made(t, 1), nil, 0},
		{made(t, 1), []int{1}, 1},
		{made(t, 1), []int{2, 1}, 0},
		{made(t, 2), []int{7}, 2},
		{made(t, 2), []int{4, 9}, 1},
		{made(t, 2), []int{1, 1, 1}, 3},
		{several(t), []int{1}, 16},
		{several(t), []int{0, 1, 0, 1, 1}, 11},
		{several(t), []int{0, 0, 0, 0, 1}, 1},
		{several(t), []int{math.MaxInt, 0, 0, 0, math.MaxInt}, 17},
		{made(t, 62), nil, 0},
		{made(t, 62), []int{1}, 1 << 61},
		{made(t, 62), row(61, 0, 1), 1},
		{made(t, 62), row(62, 0, 1), 0},
		{made(t, 62), row(62, 1), 1<<62 - 1},
		{made(t, 62), row(61, 1, 0), 1<<62 - 2},
		{made(t, 62), row(29, 0, 1), 1 << 32},
		{made(t, 62), row(30, 0, 1), 1 << 31},
	} {
		if n, e := Number(c.h.s, c.picks...); n != c.want || e != api.OK {
			t.Fatalf("%v of %d pieces: %d %v, want %d", c.picks, len(c.h.spots), n, e, c.want)
		}
	}
	for _, pieces := range []int{63, 64, 65, 200} {
		for _, picks := range [][]int{nil, {1}, row(64, 1)} {
			if n, e := Number(made(t, pieces).s, picks...); n != 0 || e != api.ErrLong {
				t.Fatal(pieces, n, e)
			}
		}
	}
}

// P7.1: At tells the way that has as many ahead of it.
func TestAt(t *testing.T) {
	for _, c := range []struct {
		h    holds
		n    int64
		want []int
	}{
		{bare(t), 0, nil},
		{made(t, 0), 0, nil},
		{made(t, 1), 0, []int{0}},
		{made(t, 1), 1, []int{1}},
		{made(t, 2), 1, []int{0, 1}},
		{made(t, 2), 2, []int{1, 0}},
		{made(t, 2), 3, []int{1, 1}},
		{several(t), 0, row(5, 0)},
		{several(t), 11, []int{0, 1, 0, 1, 1}},
		{several(t), 16, []int{1, 0, 0, 0, 0}},
		{several(t), 31, row(5, 1)},
		{made(t, 62), 0, row(62, 0)},
		{made(t, 62), 1, row(61, 0, 1)},
		{made(t, 62), 1 << 32, row(29, 0, row(1, 1, row(32, 0)...)...)},
		{made(t, 62), 1 << 61, row(1, 1, row(61, 0)...)},
		{made(t, 62), 1<<62 - 2, row(61, 1, 0)},
		{made(t, 62), 1<<62 - 1, row(62, 1)},
	} {
		if way, e := At(c.h.s, c.n); !slices.Equal(way, c.want) || e != api.OK {
			t.Fatalf("%d of %d pieces: %v %v, want %v", c.n, len(c.h.spots), way, e, c.want)
		}
	}
}

// P7.1: ErrArg for a number below 0 comes ahead of ErrLong for the pieces, and that ahead of ErrRange for the number.
func TestAtRefuses(t *testing.T) {
	refuses := func(h holds, n int64, e api.Errno) {
		t.Helper()
		if way, have := At(h.s, n); way != nil || have != e {
			t.Fatalf("%d of %d pieces: %v %v, want %v", n, len(h.spots), way, have, e)
		}
	}
	high := []int64{1 << 62, 1<<62 + 1, math.MaxInt64 - 1, math.MaxInt64}
	low := []int64{-1, -2, math.MinInt32, math.MinInt64 + 1, math.MinInt64}
	for _, h := range []holds{bare(t), made(t, 0), made(t, 1), made(t, 2), several(t), made(t, 31), made(t, 32), made(t, 61), made(t, 62)} {
		ways := int64(1) << len(h.spots)
		for _, n := range append([]int64{ways, ways + 1}, high...) {
			refuses(h, n, api.ErrRange)
		}
		for _, n := range low {
			refuses(h, n, api.ErrArg)
		}
	}
	for _, pieces := range []int{63, 64, 65, 200} {
		h := made(t, pieces)
		for _, n := range append([]int64{0, 1, 2}, high...) {
			refuses(h, n, api.ErrLong)
		}
		for _, n := range low {
			refuses(h, n, api.ErrArg)
		}
	}
}

// P7.1, P7.2, P7.3: of no store each call that answers an error answers ErrNil, ahead of all else, and zero beside it; the others tell nothing.
func TestNoStore(t *testing.T) {
	for name, s := range nothings() {
		if n, e := Count(s); n != 0 || e != api.ErrNil {
			t.Fatal(name, n, e)
		}
		for _, picks := range [][]int{nil, {1}, {-1}} {
			if way, e := Plain(s, picks...); way != nil || e != api.ErrNil {
				t.Fatal(name, way, e)
			}
			if n, e := Number(s, picks...); n != 0 || e != api.ErrNil {
				t.Fatal(name, n, e)
			}
		}
		for _, n := range []int64{0, 1, -1, 1 << 62, math.MaxInt64, math.MinInt64} {
			if way, e := At(s, n); way != nil || e != api.ErrNil {
				t.Fatal(name, way, e)
			}
		}
		for _, n := range []int{0, 1, 2, -1, 1000, 1001, math.MaxInt, math.MinInt} {
			if l, e := Some(s, 1, n); l != nil || e != api.ErrNil {
				t.Fatal(name, l, e)
			}
		}
		for way := range All(s) {
			t.Fatal(name, way)
		}
		for n, o := range Images(s) {
			t.Fatal(name, n, o)
		}
	}
}

// P7.1: lists that are handed in stay as they are, with the room behind them; what is told is new memory.
func TestPicksStay(t *testing.T) {
	for _, h := range []holds{made(t, 2), made(t, 6), made(t, 63)} {
		whole := []int{7, 6, 5, 4, 3, 2, 9}
		was := slices.Clone(whole)
		for n := range whole {
			one, _ := Plain(h.s, whole[:n]...)
			two, _ := Plain(h.s, whole[:n]...)
			Number(h.s, whole[:n]...)
			if !slices.Equal(whole, was) {
				t.Fatal(whole)
			}
			for i := range one {
				one[i] = -1
			}
			if again, _ := Plain(h.s, whole[:n]...); !slices.Equal(again, two) || !slices.Equal(whole, was) {
				t.Fatal(again, whole)
			}
		}
	}
	s := made(t, 3).s
	one, _ := At(s, 6)
	two, _ := At(s, 6)
	clear(one[:cap(one)])
	if again, _ := At(s, 6); !slices.Equal(two, []int{1, 1, 0}) || !slices.Equal(again, two) {
		t.Fatal(two, again)
	}
}

// P7.1: asking changes no store.
func TestAskingChangesNothing(t *testing.T) {
	for _, h := range []holds{bare(t), made(t, 2), several(t), made(t, 63)} {
		want(t, h.s.Feed(api.Fate{Kind: api.FateFail}), api.OK)
		was := h.s.Copy()
		done, fates := h.s.Steps()
		Count(h.s)
		Plain(h.s, 1, 2, 3)
		Number(h.s, 1, 2, 3)
		At(h.s, 1)
		Some(h.s, 1, 5)
		tell(h, 3)
		if d, f := h.s.Steps(); !h.s.Same(was) || d != done || f != fates {
			t.Fatal("changed", d, f)
		}
	}
}

// P7.4: Number of At is the number, At of a Number is Plain.
func TestThereAndBack(t *testing.T) {
	r := rand.New(rand.NewSource(4))
	for pieces := range 63 {
		h := made(t, pieces)
		last := int64(1)<<pieces - 1
		for _, n := range []int64{0, last, last / 2, last/2 + last%2, last / 3, r.Int63() & last, r.Int63() & last, r.Int63() & last} {
			way, e := At(h.s, n)
			want(t, e, api.OK)
			if back, e := Number(h.s, way...); back != n || e != api.OK {
				t.Fatalf("%d pieces: %d, then %d %v", pieces, n, back, e)
			}
		}
		for range 5 {
			picks := make([]int, r.Intn(pieces+3))
			for i := range picks {
				picks[i] = r.Intn(9)
			}
			plain, _ := Plain(h.s, picks...)
			n, e := Number(h.s, picks...)
			want(t, e, api.OK)
			if way, e := At(h.s, n); !slices.Equal(way, plain) || e != api.OK {
				t.Fatalf("%d pieces: %v is %v, then %v %v", pieces, picks, plain, way, e)
			}
			if again, e := Number(h.s, plain...); again != n || e != api.OK {
				t.Fatal(again, n, e)
			}
		}
	}
}
