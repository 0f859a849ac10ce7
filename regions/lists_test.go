package regions

import (
	"math"
	"slices"
	"testing"

	"palimpsest/api"
)

// P12.4: Count of each kind, of one that is not there, of ones that may not be.
func TestCount(t *testing.T) {
	r := made(t, region(2, 0, 5), region(1, 5, 1), region(2, 100, 7), region(16, 50, 1), region(2, 20, 1), region(3, 1<<40, top-1<<40))
	for _, x := range []struct {
		kind, many int
		bytes      int64
	}{
		{1, 1, 1}, {2, 3, 13}, {3, 1, top - 1<<40}, {16, 1, 1}, {4, 0, 0}, {15, 0, 0},
		{0, 0, 0}, {17, 0, 0}, {-1, 0, 0}, {-2, 0, 0}, {18, 0, 0}, {258, 0, 0}, {1<<32 + 2, 0, 0}, {math.MaxInt, 0, 0}, {math.MinInt, 0, 0},
	} {
		if many, bytes := r.Count(x.kind); many != x.many || bytes != x.bytes {
			t.Errorf("Count(%d): %d %d", x.kind, many, bytes)
		}
		if many, bytes := New().Count(x.kind); many != 0 || bytes != 0 {
			t.Errorf("Count(%d) of none: %d %d", x.kind, many, bytes)
		}
	}
	if one, no := r.Take(100); one != region(2, 100, 7) || no != api.OK {
		t.Fatal(one, no)
	}
	if r.Move(0, 200) != api.OK {
		t.Fatal("Move")
	}
	if many, bytes := r.Count(2); many != 2 || bytes != 6 {
		t.Error(many, bytes)
	}
	if many, bytes := made(t, bytewise(65536)...).Count(16); many != 4096 || bytes != 4096 {
		t.Error(many, bytes)
	}
}

// P12.4: End of none, of one, of many, as they come and go.
func TestEnd(t *testing.T) {
	r := New()
	end := func(want int64) {
		t.Helper()
		if r.End() != want {
			t.Errorf("End %d, want %d", r.End(), want)
		}
	}
	end(0)
	r.Put(region(1, 10, 5))
	end(15)
	r.Put(region(1, 0, 5))
	end(15)
	r.Put(region(1, 15, 1))
	end(16)
	r.Move(0, 100)
	end(105)
	r.Take(100)
	end(16)
	r.Take(15)
	r.Take(10)
	end(0)
	r.Put(region(1, 0, top))
	end(top)
}

// P12.4: All of none, and in order however they were put.
func TestAll(t *testing.T) {
	for range New().All() {
		t.Error("of none one is told")
	}
	want := []api.Region{region(4, 0, 1), region(3, 1, 1), region(2, 7, 3), region(1, top-1, 1)}
	for i := range want {
		for k := range want {
			l := slices.Clone(want)
			l[i], l[k] = l[k], l[i]
			has(t, made(t, l...), want...)
		}
	}
}

// P12.4: Gaps by rows.
func TestGapsRows(t *testing.T) {
	some := []api.Region{region(1, 10, 10), region(2, 20, 5), region(1, 30, 1)}
	for _, x := range []struct {
		of    []api.Region
		until int64
		want  []gap
	}{
		{nil, 0, nil}, {nil, -1, nil}, {nil, math.MinInt64, nil}, {nil, 1, []gap{{0, 1}}}, {nil, top, []gap{{0, top}}}, {nil, top + 1, []gap{{0, top}}}, {nil, math.MaxInt64, []gap{{0, top}}}, {nil, top - 1, []gap{{0, top - 1}}},
		{some, 0, nil}, {some, -1, nil}, {some, -20, nil}, {some, math.MinInt64, nil}, {some, 1, []gap{{0, 1}}}, {some, 9, []gap{{0, 9}}}, {some, 10, []gap{{0, 10}}}, {some, 11, []gap{{0, 10}}}, {some, 20, []gap{{0, 10}}}, {some, 25, []gap{{0, 10}}},
		{some, 26, []gap{{0, 10}, {25, 1}}}, {some, 30, []gap{{0, 10}, {25, 5}}}, {some, 31, []gap{{0, 10}, {25, 5}}}, {some, 32, []gap{{0, 10}, {25, 5}, {31, 1}}},
		{some, top - 1, []gap{{0, 10}, {25, 5}, {31, top - 32}}}, {some, top, []gap{{0, 10}, {25, 5}, {31, top - 31}}}, {some, top + 1, []gap{{0, 10}, {25, 5}, {31, top - 31}}}, {some, math.MaxInt64, []gap{{0, 10}, {25, 5}, {31, top - 31}}},
		{[]api.Region{region(1, 0, 5)}, 5, nil}, {[]api.Region{region(1, 0, 5)}, 3, nil}, {[]api.Region{region(1, 0, 5)}, 6, []gap{{5, 1}}}, {[]api.Region{region(1, 0, top)}, top, nil}, {[]api.Region{region(1, 0, top)}, math.MaxInt64, nil},
		{[]api.Region{region(1, top-1, 1)}, top, []gap{{0, top - 1}}}, {[]api.Region{region(1, top-2, 1)}, math.MaxInt64, []gap{{0, top - 2}, {top - 1, 1}}},
	} {
		if l := gapped(made(t, x.of...).Gaps(x.until)); !slices.Equal(l, x.want) {
			t.Errorf("%v: Gaps(%d): %v, want %v", x.of, x.until, l, x.want)
		}
	}
}

// P12.4: both may be left at any time, and gone over again from their begins.
func TestListsLeftEarly(t *testing.T) {
	r, want := three(t)
	gaps := []gap{{0, 10}, {15, 5}, {25, 5}, {35, 65}}
	all, between := r.All(), r.Gaps(100)
	for many := range 6 {
		var l []api.Region
		for one := range all {
			if len(l) == many {
				break
			}
			l = append(l, one)
		}
		if !slices.Equal(l, want[:min(many, len(want))]) {
			t.Error(many, l)
		}
		var g []gap
		for at, n := range between {
			if len(g) == many {
				break
			}
			g = append(g, gap{at, n})
		}
		if !slices.Equal(g, gaps[:min(many, len(gaps))]) {
			t.Error(many, g)
		}
	}
	calls := 0
	all(func(api.Region) bool { calls++; return false })
	between(func(int64, int64) bool { calls++; return false })
	if calls != 2 {
		t.Error("they go on when they are left", calls)
	}
	for range 2 {
		if l, g := gathered(all), gapped(between); !slices.Equal(l, want) || !slices.Equal(g, gaps) {
			t.Error(l, g)
		}
	}
}

// P12.4: two that go over one at a time, one inside the other, do not disturb each other.
func TestListsWithinThemselves(t *testing.T) {
	r, want := three(t)
	all, between := r.All(), r.Gaps(100)
	many := 0
	for range all {
		for range between {
			many++
			if l := gathered(all); !slices.Equal(l, want) {
				t.Fatal(l)
			}
		}
	}
	if many != 12 {
		t.Error(many)
	}
}

// changes are calls that change the three regions of three, each in another way.
func changes() map[string]func(r *Regions) {
	return map[string]func(r *Regions){
		"put ahead":   func(r *Regions) { r.Put(region(9, 0, 1)) },
		"put between": func(r *Regions) { r.Put(region(9, 17, 1)) },
		"put behind":  func(r *Regions) { r.Put(region(9, 40, 1)) },
		"put many":    func(r *Regions) { r.Put(region(9, 40, 1), region(8, 0, 1), region(7, 26, 1), region(6, 60, 1)) },
		"put up to one that lies over": func(r *Regions) {
			r.Put(region(9, 40, 1), region(8, 0, 1), region(7, 20, 1), region(6, 60, 1))
		},
		"take the first":            func(r *Regions) { r.Take(10) },
		"take the middle":           func(r *Regions) { r.Take(20) },
		"take the last":             func(r *Regions) { r.Take(30) },
		"take the last, put behind": func(r *Regions) { r.Take(30); r.Put(region(9, 33, 1)) },
		"take the first, put it":    func(r *Regions) { r.Take(10); r.Put(region(9, 12, 1)) },
		"take all, put others": func(r *Regions) {
			r.Take(30)
			r.Take(10)
			r.Take(20)
			r.Put(region(9, 1, 1), region(8, 0, 1), region(7, 3, 1), region(6, 2, 1))
		},
		"move the first behind":    func(r *Regions) { r.Move(10, 50) },
		"move the last ahead":      func(r *Regions) { r.Move(30, 0) },
		"move the middle by one":   func(r *Regions) { r.Move(20, 21) },
		"move the last by one":     func(r *Regions) { r.Move(30, 31) },
		"move, refused":            func(r *Regions) { r.Move(30, 11); r.Move(10, 31); r.Move(20, -1) },
		"move the last far behind": func(r *Regions) { r.Move(30, 1000); r.Put(region(9, 30, 1)) },
	}
}

// P12.4: both tell what there is when they are called, whatever is put, taken or moved behind that, or meanwhile.
func TestListsAsTheyAreWhenCalled(t *testing.T) {
	gaps := []gap{{0, 10}, {15, 5}, {25, 5}, {35, 65}}
	for name, change := range changes() {
		for ahead := range 3 {
			r, want := three(t)
			// Put and taken, so that what is there has spare room behind it, and has not.
			for i := range ahead {
				r.Put(region(5, int64(70+i), 1))
			}
			for i := range ahead {
				r.Take(int64(70 + i))
			}
			all, between := r.All(), r.Gaps(100)
			change(r)
			if l, g := gathered(all), gapped(between); !slices.Equal(l, want) || !slices.Equal(g, gaps) {
				t.Error(name, "behind the call", l, g)
			}
			r, _ = three(t)
			var l []api.Region
			for one := range r.All() {
				if l = append(l, one); len(l) == 1 {
					change(r)
				}
			}
			if !slices.Equal(l, want) {
				t.Error(name, "meanwhile", l)
			}
			r, _ = three(t)
			var g []gap
			for at, n := range r.Gaps(100) {
				if g = append(g, gap{at, n}); len(g) == 1 {
					change(r)
				}
			}
			if !slices.Equal(g, gaps) {
				t.Error(name, "meanwhile", g)
			}
		}
	}
}

// P12.4: many iterators, each begun at another time, tell what was there at theirs.
func TestListsOfManyTimes(t *testing.T) {
	r := New()
	var told []func() bool
	p := newPlain(0, 200)
	keep := func() {
		all, between, want, gaps := r.All(), r.Gaps(250), p.all(), p.gaps(250)
		told = append(told, func() bool { return slices.Equal(gathered(all), want) && slices.Equal(gapped(between), gaps) })
	}
	keep()
	for i := range 60 {
		p.heldPut(t, r, region(1+i%3, int64(i*37%100*2), 1))
		keep()
	}
	for i := range 60 {
		p.heldTake(t, r, int64(i*37%100*2))
		keep()
		if i%3 == 0 {
			p.heldPut(t, r, region(5, 199, 1))
			keep()
			p.heldTake(t, r, 199)
		}
	}
	for i, right := range told {
		if !right() {
			t.Error("another list than at its call", i)
		}
	}
}
