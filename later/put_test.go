package later

import (
	"math"
	"slices"
	"testing"

	"palimpsest/api"
)

// putRow is what waits, what is put, how many bytes that are new, what waits then.
type putRow struct {
	was, put []api.Run
	n        int64
	want     []api.Run
}

func (x putRow) held(t *testing.T) {
	t.Helper()
	q := made(t, x.was...)
	if n, no := q.Put(x.put...); n != x.n || no != api.OK {
		t.Errorf("%v: Put(%v): %d %v, want %d", x.was, x.put, n, no, x.n)
	}
	has(t, q, x.want...)
}

// P13.1: the rows of the chapter's examples.
func TestPutExamples(t *testing.T) {
	q := made(t, run(0, 10), run(20, 5))
	has(t, q, run(0, 10), run(20, 5))
	for _, x := range []struct {
		put api.Run
		n   int64
	}{{run(10, 5), 5}, {run(12, 10), 5}} {
		if n, no := q.Put(x.put); n != x.n || no != api.OK {
			t.Error(x, n, no)
		}
	}
	has(t, q, run(0, 25))
	for _, x := range []api.Run{run(0, 0), run(-1, 5)} {
		if q, no := New(x); q != nil || no != api.ErrArg {
			t.Error(x, q, no)
		}
	}
}

// P13.1: runs that meet, touch, lie within, lie over several, fill just the room between two, leave one byte of it.
func TestPutBesideOne(t *testing.T) {
	one := []api.Run{run(10, 10)}
	for _, x := range []putRow{
		{one, []api.Run{run(0, 9)}, 9, []api.Run{run(0, 9), run(10, 10)}},
		{one, []api.Run{run(0, 10)}, 10, []api.Run{run(0, 20)}},
		{one, []api.Run{run(0, 11)}, 10, []api.Run{run(0, 20)}},
		{one, []api.Run{run(9, 1)}, 1, []api.Run{run(9, 11)}},
		{one, []api.Run{run(8, 1)}, 1, []api.Run{run(8, 1), run(10, 10)}},
		{one, []api.Run{run(20, 1)}, 1, []api.Run{run(10, 11)}},
		{one, []api.Run{run(21, 1)}, 1, []api.Run{run(10, 10), run(21, 1)}},
		{one, []api.Run{run(19, 2)}, 1, []api.Run{run(10, 11)}},
		{one, []api.Run{run(10, 10)}, 0, one},
		{one, []api.Run{run(10, 1)}, 0, one},
		{one, []api.Run{run(19, 1)}, 0, one},
		{one, []api.Run{run(12, 5)}, 0, one},
		{one, []api.Run{run(9, 12)}, 2, []api.Run{run(9, 12)}},
		{one, []api.Run{run(0, top)}, top - 10, []api.Run{run(0, top)}},
		{one, nil, 0, one},
		{nil, nil, 0, nil},
		{nil, []api.Run{run(0, top)}, top, []api.Run{run(0, top)}},
		{[]api.Run{run(0, top)}, []api.Run{run(0, top), run(0, 1), run(top-1, 1)}, 0, []api.Run{run(0, top)}},
	} {
		x.held(t)
	}
}

// P13.1: likewise with several, and of several in one call.
func TestPutBesideMany(t *testing.T) {
	three := []api.Run{run(10, 5), run(20, 5), run(30, 5)}
	for _, x := range []putRow{
		{three, []api.Run{run(15, 5)}, 5, []api.Run{run(10, 15), run(30, 5)}},
		{three, []api.Run{run(15, 4)}, 4, []api.Run{run(10, 9), run(20, 5), run(30, 5)}},
		{three, []api.Run{run(16, 4)}, 4, []api.Run{run(10, 5), run(16, 9), run(30, 5)}},
		{three, []api.Run{run(16, 3)}, 3, []api.Run{run(10, 5), run(16, 3), run(20, 5), run(30, 5)}},
		{three, []api.Run{run(14, 7)}, 5, []api.Run{run(10, 15), run(30, 5)}},
		{three, []api.Run{run(15, 15)}, 10, []api.Run{run(10, 25)}},
		{three, []api.Run{run(16, 13)}, 8, []api.Run{run(10, 5), run(16, 13), run(30, 5)}},
		{three, []api.Run{run(16, 14)}, 9, []api.Run{run(10, 5), run(16, 19)}},
		{three, []api.Run{run(0, 50)}, 35, []api.Run{run(0, 50)}},
		{three, []api.Run{run(15, 5), run(25, 5)}, 10, []api.Run{run(10, 25)}},
		{three, []api.Run{run(25, 5), run(15, 5)}, 10, []api.Run{run(10, 25)}},
		{three, []api.Run{run(25, 5), run(0, 9), run(15, 5), run(36, 1)}, 20, []api.Run{run(0, 9), run(10, 25), run(36, 1)}},
		{three, []api.Run{run(17, 1), run(17, 1), run(17, 1)}, 1, []api.Run{run(10, 5), run(17, 1), run(20, 5), run(30, 5)}},
		{three, []api.Run{run(0, 3), run(1, 1), run(2, 4), run(0, 1), run(5, 2)}, 7, []api.Run{run(0, 7), run(10, 5), run(20, 5), run(30, 5)}},
		{nil, []api.Run{run(5, 1), run(3, 1), run(4, 1), run(1, 1)}, 4, []api.Run{run(1, 1), run(3, 3)}},
		{nil, []api.Run{run(0, 100), run(10, 1), run(50, 50), run(99, 1)}, 100, []api.Run{run(0, 100)}},
		{nil, []api.Run{run(top-1, 1), run(0, 1), run(top-3, 2)}, 4, []api.Run{run(0, 1), run(top-3, 3)}},
		{[]api.Run{run(5, 18)}, []api.Run{run(0, 5), run(20, 5)}, 7, []api.Run{run(0, 25)}},
		{[]api.Run{run(5, 15)}, []api.Run{run(20, 5), run(0, 5)}, 10, []api.Run{run(0, 25)}},
	} {
		x.held(t)
	}
}

// P13.1: which runs may be, at all edges, by New, Put, Cut and Over alike; nothing has changed by one that may not be.
func TestWhatMayNotBe(t *testing.T) {
	for _, at := range odd() {
		for _, n := range odd() {
			x := run(at, n)
			want := api.OK
			if !allowed(x) {
				want = api.ErrArg
			}
			if q, no := New(x); no != want || (q != nil) != (no == api.OK) {
				t.Errorf("New(%v): %v %v, want %v", x, q, no, want)
			}
			q := made(t, run(3, 4), run(100, 1))
			over, no := q.Over(x)
			if no != want || no != api.OK && over != 0 {
				t.Errorf("Over(%v): %d %v, want %v", x, over, no, want)
			}
			if many, no := q.Cut(x); no != want || many != over {
				t.Errorf("Cut(%v): %d %v, want %d %v", x, many, no, over, want)
			}
			if want != api.OK {
				has(t, q, run(3, 4), run(100, 1))
			}
			q = made(t, run(3, 4), run(100, 1))
			many, no := q.Put(x)
			if no != want || no == api.OK && many != n-over || no != api.OK && many != 0 {
				t.Errorf("Put(%v): %d %v, want %d %v", x, many, no, n-over, want)
			}
			if want != api.OK {
				has(t, q, run(3, 4), run(100, 1))
			}
		}
	}
	for _, x := range []api.Run{run(0, top), run(1, top-1), run(top-1, 1)} {
		has(t, made(t, x), x)
	}
	for _, x := range []api.Run{run(top, 1), run(top, 0), run(1, top), run(0, top+1), run(top-1, 2), run(1, math.MaxInt64), run(math.MaxInt64, math.MaxInt64), run(math.MinInt64, math.MinInt64), run(-1, 2), run(5, -5)} {
		if q, no := New(x); q != nil || no != api.ErrArg {
			t.Error(x, q, no)
		}
	}
}

// P13.1: one that may not be, wherever it stands, refuses all others with it.
func TestOneOfManyMayNotBe(t *testing.T) {
	for _, bad := range []api.Run{run(0, 0), run(-1, 5), run(5, -1), run(top, 1), run(1, math.MaxInt64)} {
		for _, l := range [][]api.Run{{bad}, {bad, run(50, 1), run(60, 1)}, {run(50, 1), bad, run(60, 1)}, {run(50, 1), run(60, 1), bad}, {bad, bad}, append(apart(most+1), bad), append([]api.Run{bad}, apart(most+1)...)} {
			if q, no := New(l...); q != nil || no != api.ErrArg {
				t.Error(bad, q, no)
			}
			q := made(t, run(3, 4), run(100, 1))
			if n, no := q.Put(l...); n != 0 || no != api.ErrArg {
				t.Error(bad, n, no)
			}
			has(t, q, run(3, 4), run(100, 1))
		}
	}
}

// P13.1: New of none is one in which nothing waits; what is put then waits.
func TestNewOfNone(t *testing.T) {
	for _, l := range [][]api.Run{nil, {}} {
		q := made(t, l...)
		has(t, q)
		if n, no := q.Put(l...); n != 0 || no != api.OK {
			t.Error(n, no)
		}
		has(t, q)
		if n, no := q.Put(run(7, 7)); n != 7 || no != api.OK {
			t.Error(n, no)
		}
		has(t, q, run(7, 7))
	}
}

// P13.1: the lists are the caller's: they stay as they are, the room behind them too, and what becomes of them is not seen.
func TestListsStayTheCallers(t *testing.T) {
	whole := []api.Run{run(9, 2), run(0, 3), run(2, 2), run(99, 99)}
	was := slices.Clone(whole)
	l := whole[:3]
	q := made(t, l...)
	if n, no := q.Put(l...); n != 0 || no != api.OK {
		t.Error(n, no)
	}
	if n, no := q.Put(append(whole[:0:0], whole[:2]...)...); n != 0 || no != api.OK {
		t.Error(n, no)
	}
	if !slices.Equal(whole, was) {
		t.Error(whole)
	}
	clear(whole)
	has(t, q, run(0, 4), run(9, 2))
}

// P13.5: in whatever order and parts they are put, the same waits.
func TestOrdersAndParts(t *testing.T) {
	all := []api.Run{run(0, 3), run(2, 4), run(8, 2), run(10, 1), run(12, 3), run(6, 1)}
	want := []api.Run{run(0, 7), run(8, 3), run(12, 3)}
	orders := 0
	var next func(done, left []api.Run)
	next = func(done, left []api.Run) {
		if len(left) == 0 {
			orders++
			putInParts(t, done, want)
		}
		for i := range left {
			rest := slices.Delete(slices.Clone(left), i, i+1)
			next(append(slices.Clone(done), left[i]), rest)
		}
	}
	next(nil, all)
	if orders != 720 {
		t.Error(orders)
	}
}

// putInParts puts runs in all parts into which their list can be cut.
func putInParts(t *testing.T, l, want []api.Run) {
	t.Helper()
	for cuts := range 1 << (len(l) - 1) {
		q, from, sum := made(t), 0, int64(0)
		for i := range l {
			if i == len(l)-1 || cuts>>i&1 == 1 {
				n, no := q.Put(l[from : i+1]...)
				if no != api.OK {
					t.Fatal(l, cuts, no)
				}
				from, sum = i+1, sum+n
			}
		}
		has(t, q, want...)
		if sum != 13 || !q.Same(made(t, want...)) {
			t.Fatal(l, cuts, sum)
		}
	}
}
