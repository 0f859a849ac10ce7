package later

import (
	"slices"
	"testing"

	"palimpsest/api"
)

// full is one with as many runs as may be, and these.
func full(t *testing.T) (*Later, []api.Run) {
	t.Helper()
	l := apart(most)
	return made(t, l...), l
}

// P13.1: as many runs as may be, and one more, by New.
func TestNewFull(t *testing.T) {
	q, l := full(t)
	has(t, q, l...)
	for _, x := range []api.Run{run(2*most, 1), run(top-1, 1), run(2*most+7, top-2*most-7)} {
		if q, no := New(append(slices.Clone(l), x)...); q != nil || no != api.ErrFull {
			t.Error(x, q, no)
		}
		if q, no := New(append([]api.Run{x}, l...)...); q != nil || no != api.ErrFull {
			t.Error(x, q, no)
		}
	}
	// It is what would wait that counts, not how many are named.
	has(t, made(t, append(apart(3*most), run(0, 8*most))...), run(0, 8*most))
	has(t, made(t, slices.Concat(l, l, l)...), l...)
	has(t, made(t, append([]api.Run{run(1, 1)}, apart(most+1)...)...), append([]api.Run{run(0, 3)}, apart(most + 1)[2:]...)...)
}

// P13.1: where there are as many as may be, one more is refused, and nothing has changed.
func TestPutFull(t *testing.T) {
	q, l := full(t)
	for _, more := range [][]api.Run{{run(2*most, 1)}, {run(top-1, 1)}, {run(2*most, 1), run(2*most+2, 1)}, {run(2*most, 1), run(0, 1)}, {run(1, 1), run(2*most, 1), run(2*most+2, 1)}, apart(most + 1)} {
		if n, no := q.Put(more...); n != 0 || no != api.ErrFull {
			t.Error(more[0], n, no)
		}
		has(t, q, l...)
	}
	for i, x := range l {
		if i%500 == 0 {
			if n, no := q.Over(x); n != 1 || no != api.OK {
				t.Error(x, n, no)
			}
		}
	}
}

// P13.1: one that puts two together goes, as do one that makes a run longer, one that waits already, and one beside one that puts two together.
func TestPutIntoFull(t *testing.T) {
	for _, x := range []struct {
		put  []api.Run
		n    int64
		runs int
	}{
		{[]api.Run{run(1, 1)}, 1, most - 1}, {[]api.Run{run(2*most-1, 1)}, 1, most}, {[]api.Run{run(0, 1)}, 0, most}, {[]api.Run{run(2*most-2, 5)}, 4, most},
		{[]api.Run{run(2*most, 1), run(1, 1)}, 2, most}, {[]api.Run{run(2*most, 1), run(2*most+2, 1), run(0, 5)}, 4, most}, {[]api.Run{run(0, top)}, top - most, 1}, {nil, 0, most},
	} {
		q, _ := full(t)
		if n, no := q.Put(x.put...); n != x.n || no != api.OK {
			t.Error(x, n, no)
		}
		if runs, bytes := q.Size(); runs != x.runs || bytes != most+x.n {
			t.Error(x, runs, bytes)
		}
	}
	q, l := full(t)
	q.Put(run(1, 1))
	if n, no := q.Put(run(2*most, 1)); n != 1 || no != api.OK {
		t.Error(n, no)
	}
	if n, no := q.Put(run(2*most+2, 1)); n != 0 || no != api.ErrFull {
		t.Error(n, no)
	}
	has(t, q, slices.Concat([]api.Run{run(0, 3)}, l[2:], []api.Run{run(2*most, 1)})...)
}

// P13.1: a cut within one run leaves two, which may be one too many: then nothing has changed.
func TestCutFull(t *testing.T) {
	l := append(apart(most-1), run(10000, 10))
	for _, x := range []struct {
		cut  api.Run
		n    int64
		no   api.Errno
		left []api.Run
	}{
		{run(10001, 1), 0, api.ErrFull, nil}, {run(10001, 8), 0, api.ErrFull, nil}, {run(10008, 1), 0, api.ErrFull, nil}, {run(10005, 2), 0, api.ErrFull, nil},
		{run(10000, 1), 1, api.OK, []api.Run{run(10001, 9)}}, {run(10009, 1), 1, api.OK, []api.Run{run(10000, 9)}}, {run(10000, 10), 10, api.OK, nil}, {run(9999, 11), 10, api.OK, nil}, {run(10010, 1), 0, api.OK, []api.Run{run(10000, 10)}}, {run(9998, 3), 1, api.OK, []api.Run{run(10001, 9)}},
	} {
		q := made(t, l...)
		if n, no := q.Cut(x.cut); n != x.n || no != x.no {
			t.Error(x, n, no)
		}
		if x.no != api.OK {
			has(t, q, l...)
			continue
		}
		has(t, q, append(apart(most-1), x.left...)...)
	}
	// With one less there is room for two.
	q := made(t, append(apart(most-2), run(10000, 10))...)
	if n, no := q.Cut(run(10005, 1)); n != 1 || no != api.OK {
		t.Error(n, no)
	}
	has(t, q, append(apart(most-2), run(10000, 5), run(10006, 4))...)
}

// P13.1, P13.2: what is taken off makes room again.
func TestRoomAgain(t *testing.T) {
	for name, take := range map[string]func(q *Later){
		"cut":      func(q *Later) { q.Cut(run(0, 2)) },
		"next":     func(q *Later) { q.Next(1) },
		"greatest": func(q *Later) { q.Greatest() },
		"drain": func(q *Later) {
			for range q.Drain(5) {
				break
			}
		},
	} {
		q, _ := full(t)
		take(q)
		if n, no := q.Put(run(20000, 1)); n != 1 || no != api.OK {
			t.Error(name, n, no)
		}
		if n, no := q.Put(run(20002, 1)); n != 0 || no != api.ErrFull {
			t.Error(name, n, no)
		}
		if runs, bytes := q.Size(); runs != most || bytes != most {
			t.Error(name, runs, bytes)
		}
	}
}

// P13.5: as many as may be, put one by one in several orders, are drained rising.
func TestFullInOrders(t *testing.T) {
	_, l := full(t)
	for _, step := range []int{1, 3, 1365, most - 1} {
		q := made(t)
		for i := range most {
			if n, no := q.Put(l[i*step%most]); n != 1 || no != api.OK {
				t.Fatal(step, i, n, no)
			}
		}
		has(t, q, l...)
		if got := gathered(q.Drain(1)); !slices.Equal(got, l) {
			t.Fatal(step, "drained otherwise")
		}
		has(t, q)
	}
}

// P13.2: Greatest of as many as may be tells the longest first, of those as long the ones ahead.
func TestGreatestOfFull(t *testing.T) {
	var l []api.Run
	for i := range most {
		l = append(l, run(int64(20*i), int64(1+i*7%10)))
	}
	q := made(t, l...)
	slices.SortStableFunc(l, func(a, b api.Run) int { return int(b.Len - a.Len) })
	for i, want := range l {
		if x, no := q.Greatest(); x != want || no != api.OK {
			t.Fatal(i, x, no, want)
		}
	}
	has(t, q)
}

// P13.1: a long list, of which all lie within what waits behind many others, or put all of it together, takes no longer than it should.
func TestPutLongLists(t *testing.T) {
	l := append(apart(most-1), run(1<<20, 1<<30))
	q := made(t, l...)
	var many []api.Run
	for i := range 1 << 18 {
		many = append(many, run(int64(1<<20+4*i), 1))
	}
	if n, no := q.Put(many...); n != 0 || no != api.OK {
		t.Error(n, no)
	}
	has(t, q, l...)
	if q, no := New(many...); q != nil || no != api.ErrFull {
		t.Error(q, no)
	}
	many = append(many, run(1<<20, 1<<20))
	has(t, made(t, many...), run(1<<20, 1<<20))
}
