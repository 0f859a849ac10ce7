package later

import (
	"math"
	"slices"
	"testing"

	"palimpsest/api"
)

// P13.1 to P13.3: the second row of the chapter's examples.
func TestTakeExamples(t *testing.T) {
	q := made(t, run(0, 25))
	if n, no := q.Cut(run(3, 4)); n != 4 || no != api.OK {
		t.Error(n, no)
	}
	has(t, q, run(0, 3), run(7, 18))
	if x, no := q.Greatest(); x != run(7, 18) || no != api.OK {
		t.Error(x, no)
	}
	for _, r := range []struct {
		most int64
		x    api.Run
		no   api.Errno
	}{{2, run(0, 2), api.OK}, {9, run(2, 1), api.OK}, {1, api.Run{}, api.ErrNone}, {0, api.Run{}, api.ErrArg}} {
		if x, no := q.Next(r.most); x != r.x || no != r.no {
			t.Error(r, x, no)
		}
	}
}

// P13.1: Cut of what waits not at all, in part, as a whole, within one run, over several, at a run's first and last byte. P13.3: Over tells the same number, and changes nothing.
func TestCut(t *testing.T) {
	three := []api.Run{run(10, 5), run(20, 5), run(30, 5)}
	for _, x := range []struct {
		cut  api.Run
		n    int64
		left []api.Run
	}{
		{run(0, 10), 0, three}, {run(15, 5), 0, three}, {run(35, top-35), 0, three}, {run(17, 1), 0, three},
		{run(0, 11), 1, []api.Run{run(11, 4), run(20, 5), run(30, 5)}},
		{run(10, 1), 1, []api.Run{run(11, 4), run(20, 5), run(30, 5)}},
		{run(14, 1), 1, []api.Run{run(10, 4), run(20, 5), run(30, 5)}},
		{run(14, 6), 1, []api.Run{run(10, 4), run(20, 5), run(30, 5)}},
		{run(14, 7), 2, []api.Run{run(10, 4), run(21, 4), run(30, 5)}},
		{run(22, 1), 1, []api.Run{run(10, 5), run(20, 2), run(23, 2), run(30, 5)}},
		{run(21, 3), 3, []api.Run{run(10, 5), run(20, 1), run(24, 1), run(30, 5)}},
		{run(20, 5), 5, []api.Run{run(10, 5), run(30, 5)}},
		{run(19, 7), 5, []api.Run{run(10, 5), run(30, 5)}},
		{run(12, 20), 10, []api.Run{run(10, 2), run(32, 3)}},
		{run(10, 25), 15, nil}, {run(0, top), 15, nil},
		{run(11, 23), 13, []api.Run{run(10, 1), run(34, 1)}},
		{run(15, 10), 5, []api.Run{run(10, 5), run(30, 5)}},
		{run(34, 1), 1, []api.Run{run(10, 5), run(20, 5), run(30, 4)}},
		{run(34, top-34), 1, []api.Run{run(10, 5), run(20, 5), run(30, 4)}},
	} {
		q := made(t, three...)
		if n, no := q.Over(x.cut); n != x.n || no != api.OK {
			t.Errorf("Over(%v): %d %v, want %d", x.cut, n, no, x.n)
		}
		has(t, q, three...)
		if n, no := q.Cut(x.cut); n != x.n || no != api.OK {
			t.Errorf("Cut(%v): %d %v, want %d", x.cut, n, no, x.n)
		}
		has(t, q, x.left...)
		if n, no := q.Over(x.cut); n != 0 || no != api.OK {
			t.Errorf("Over(%v) of what is cut: %d %v", x.cut, n, no)
		}
		if n, no := q.Cut(x.cut); n != 0 || no != api.OK {
			t.Errorf("Cut(%v) again: %d %v", x.cut, n, no)
		}
		has(t, q, x.left...)
		if n, no := made(t).Cut(x.cut); n != 0 || no != api.OK {
			t.Errorf("Cut(%v) of nothing: %d %v", x.cut, n, no)
		}
		if n, no := made(t).Over(x.cut); n != 0 || no != api.OK {
			t.Errorf("Over(%v) of nothing: %d %v", x.cut, n, no)
		}
	}
}

// P13.1: all there is, at its first, a middle and its last byte.
func TestCutOfAllPlaces(t *testing.T) {
	for _, x := range []struct {
		cut  api.Run
		left []api.Run
	}{
		{run(0, 1), []api.Run{run(1, top-1)}}, {run(top-1, 1), []api.Run{run(0, top-1)}}, {run(5, 1), []api.Run{run(0, 5), run(6, top-6)}}, {run(1, top-2), []api.Run{run(0, 1), run(top-1, 1)}}, {run(0, top), nil},
	} {
		q := made(t, run(0, top))
		if n, no := q.Cut(x.cut); n != x.cut.Len || no != api.OK {
			t.Error(x, n, no)
		}
		has(t, q, x.left...)
	}
}

// P13.2: Next with a bound of 1, just the run's length, one less, one more, huge.
func TestNextBounds(t *testing.T) {
	for _, x := range []struct {
		most, n int64
	}{{1, 1}, {2, 2}, {6, 6}, {7, 7}, {8, 7}, {9, 7}, {top, 7}, {math.MaxInt64, 7}, {math.MaxInt64 - 1, 7}} {
		q := made(t, run(100, 1), run(10, 7), run(50, 30))
		if got, no := q.Next(x.most); got != run(10, x.n) || no != api.OK {
			t.Error(x, got, no)
		}
		rest := []api.Run{run(10+x.n, 7-x.n), run(50, 30), run(100, 1)}
		if x.n == 7 {
			rest = rest[1:]
		}
		has(t, q, rest...)
	}
	q := made(t, run(0, top))
	if x, no := q.Next(math.MaxInt64); x != run(0, top) || no != api.OK {
		t.Error(x, no)
	}
	has(t, q)
	q = made(t, run(0, top))
	if x, no := q.Next(top - 1); x != run(0, top-1) || no != api.OK {
		t.Error(x, no)
	}
	has(t, q, run(top-1, 1))
}

// P13.2: a bound below 1 is told ahead of there being nothing, and takes nothing off.
func TestNextOfWhatMayNotBe(t *testing.T) {
	for _, most := range []int64{0, -1, -2, -top, math.MinInt64, math.MinInt64 + 1} {
		q := made(t, run(10, 7))
		if x, no := q.Next(most); x != (api.Run{}) || no != api.ErrArg {
			t.Error(most, x, no)
		}
		has(t, q, run(10, 7))
		if x, no := made(t).Next(most); x != (api.Run{}) || no != api.ErrArg {
			t.Error(most, x, no)
		}
	}
}

// P13.2: of nothing both are refused, again and again, also when all was taken off.
func TestTakeOfNothing(t *testing.T) {
	emptied := made(t, run(0, 3), run(9, 2))
	emptied.Next(9)
	emptied.Greatest()
	cut := made(t, run(0, 3), run(9, 2))
	cut.Cut(run(0, top))
	for _, q := range []*Later{made(t), emptied, cut} {
		for range 2 {
			if x, no := q.Next(1); x != (api.Run{}) || no != api.ErrNone {
				t.Error(x, no)
			}
			if x, no := q.Greatest(); x != (api.Run{}) || no != api.ErrNone {
				t.Error(x, no)
			}
			has(t, q)
		}
		q.Put(run(4, 4))
		has(t, q, run(4, 4))
	}
}

// P13.2: Greatest of one, of several, of equally long ones in all orders.
func TestGreatest(t *testing.T) {
	for _, x := range []struct{ l, want []api.Run }{
		{[]api.Run{run(5, 5)}, []api.Run{run(5, 5)}},
		{[]api.Run{run(0, 1), run(5, 5), run(20, 3)}, []api.Run{run(5, 5), run(20, 3), run(0, 1)}},
		{[]api.Run{run(0, 2), run(5, 2), run(20, 2)}, []api.Run{run(0, 2), run(5, 2), run(20, 2)}},
		{[]api.Run{run(20, 2), run(5, 2), run(0, 2)}, []api.Run{run(0, 2), run(5, 2), run(20, 2)}},
		{[]api.Run{run(5, 2), run(20, 2), run(0, 2)}, []api.Run{run(0, 2), run(5, 2), run(20, 2)}},
		{[]api.Run{run(40, 3), run(20, 3), run(30, 4), run(0, 1), run(10, 4)}, []api.Run{run(10, 4), run(30, 4), run(20, 3), run(40, 3), run(0, 1)}},
		{[]api.Run{run(0, 1), run(2, top-2)}, []api.Run{run(2, top-2), run(0, 1)}},
		{[]api.Run{run(0, 3), run(5, 2), run(7, 2)}, []api.Run{run(5, 4), run(0, 3)}},
	} {
		q := made(t, x.l...)
		for i, want := range x.want {
			if got, no := q.Greatest(); got != want || no != api.OK {
				t.Error(x.l, got, no, want)
			}
			rest := slices.Clone(x.want[i+1:])
			slices.SortFunc(rest, func(a, b api.Run) int { return int(a.At - b.At) })
			has(t, q, rest...)
		}
	}
}

// P13.2: what was taken off is not put together with anything any more.
func TestPutBesideWhatIsTaken(t *testing.T) {
	q := made(t, run(0, 5), run(10, 8))
	q.Next(3)
	q.Put(run(2, 1), run(5, 1))
	has(t, q, run(2, 4), run(10, 8))
	q.Greatest()
	q.Put(run(9, 1), run(18, 1))
	has(t, q, run(2, 4), run(9, 1), run(18, 1))
	q.Cut(run(3, 1))
	q.Put(run(6, 3))
	has(t, q, run(2, 1), run(4, 6), run(18, 1))
	q.Next(1)
	q.Put(run(3, 1))
	has(t, q, run(3, 7), run(18, 1))
}

// P13.3: Drain gone over whole, with all bounds about the runs' lengths.
func TestDrain(t *testing.T) {
	for _, x := range []struct {
		most int64
		want []api.Run
	}{
		{1, []api.Run{run(0, 1), run(1, 1), run(2, 1), run(7, 1), run(8, 1)}}, {2, []api.Run{run(0, 2), run(2, 1), run(7, 2)}}, {3, []api.Run{run(0, 3), run(7, 2)}}, {4, []api.Run{run(0, 3), run(7, 2)}}, {math.MaxInt64, []api.Run{run(0, 3), run(7, 2)}},
	} {
		q := made(t, run(7, 2), run(0, 3))
		drain := q.Drain(x.most)
		has(t, q, run(0, 3), run(7, 2))
		if l := gathered(drain); !slices.Equal(l, x.want) {
			t.Error(x, l)
		}
		has(t, q)
		if l := gathered(drain); len(l) > 0 {
			t.Error("again", l)
		}
		q.Put(run(4, 1))
		if l := gathered(drain); !slices.Equal(l, []api.Run{run(4, 1)}) {
			t.Error("what was put since", l)
		}
	}
	for range made(t).Drain(1) {
		t.Error("of nothing one is told")
	}
}

// P13.3: left early, the others wait still; what was told does not.
func TestDrainLeftEarly(t *testing.T) {
	all := []api.Run{run(0, 2), run(2, 1), run(7, 2), run(20, 1)}
	for many := 1; many <= len(all); many++ {
		q := made(t, run(7, 2), run(0, 3), run(20, 1))
		drain := q.Drain(2)
		var l []api.Run
		for x := range drain {
			// It is taken off when it is told.
			if n, no := q.Over(x); n != 0 || no != api.OK {
				t.Error(x, n, no)
			}
			if l = append(l, x); len(l) == many {
				break
			}
		}
		if !slices.Equal(l, all[:many]) {
			t.Error(many, l)
		}
		has(t, q, together(all[many:])...)
		if l := gathered(drain); !slices.Equal(l, all[many:]) {
			t.Error(many, "gone on with", l)
		}
	}
	q, calls := made(t, run(0, 9)), 0
	q.Drain(1)(func(api.Run) bool { calls++; return false })
	if calls != 1 {
		t.Error("it goes on when it is left", calls)
	}
	has(t, q, run(1, 8))
}

// P13.3: of a bound below 1 it tells nothing, and all waits still.
func TestDrainOfWhatMayNotBe(t *testing.T) {
	for _, most := range []int64{0, -1, -top, math.MinInt64} {
		q := made(t, run(0, 9))
		for x := range q.Drain(most) {
			t.Error(most, x)
		}
		has(t, q, run(0, 9))
	}
}

// P13.3: what is put or taken off meanwhile is seen, behind and ahead of what was told.
func TestDrainMeanwhile(t *testing.T) {
	q := made(t, run(10, 2), run(20, 2), run(30, 2))
	var l []api.Run
	for x := range q.Drain(9) {
		l = append(l, x)
		switch len(l) {
		case 1:
			q.Put(run(12, 3), run(22, 1), run(40, 1))
		case 2:
			q.Put(run(0, 1))
			q.Cut(run(30, 1))
		case 4:
			q.Put(run(10, 2))
		}
	}
	want := []api.Run{run(10, 2), run(12, 3), run(0, 1), run(20, 3), run(10, 2), run(31, 1), run(40, 1)}
	if !slices.Equal(l, want) {
		t.Error(l)
	}
	has(t, q)
}

// P13.3: two that drain one at a time, one inside the other, tell each byte once.
func TestDrainWithinItself(t *testing.T) {
	q := made(t, run(0, 10))
	var l []api.Run
	drain := q.Drain(2)
	for x := range drain {
		l = append(l, x)
		for x := range q.Drain(1) {
			l = append(l, x)
			break
		}
	}
	if !slices.Equal(l, []api.Run{run(0, 2), run(2, 1), run(3, 2), run(5, 1), run(6, 2), run(8, 1), run(9, 1)}) {
		t.Error(l)
	}
}
