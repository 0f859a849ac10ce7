package later

import (
	"slices"
	"testing"

	"palimpsest/api"
)

// P13.3: Size of none, of one, of many, as they come and go.
func TestSize(t *testing.T) {
	q := made(t)
	size := func(runs int, bytes int64) {
		t.Helper()
		if n, b := q.Size(); n != runs || b != bytes {
			t.Errorf("Size %d %d, want %d %d", n, b, runs, bytes)
		}
	}
	size(0, 0)
	q.Put(run(5, 5))
	size(1, 5)
	q.Put(run(20, 1), run(30, 2))
	size(3, 8)
	q.Put(run(0, 5), run(3, 4))
	size(3, 13)
	q.Cut(run(2, 2))
	size(4, 11)
	q.Next(1)
	size(4, 10)
	q.Next(1)
	size(3, 9)
	q.Greatest()
	size(2, 3)
	q.Put(run(0, top))
	size(1, top)
	q.Greatest()
	size(0, 0)
}

// P13.3: All of none, and in order however they were put.
func TestAll(t *testing.T) {
	for range made(t).All() {
		t.Error("of none one is told")
	}
	want := []api.Run{run(0, 1), run(2, 1), run(7, 3), run(50, 9), run(top-1, 1)}
	for i := range want {
		for k := range want {
			l := slices.Clone(want)
			l[i], l[k] = l[k], l[i]
			q := made(t, l...)
			has(t, q, want...)
			one := made(t)
			for _, x := range l {
				one.Put(x)
			}
			has(t, one, want...)
		}
	}
}

// P13.3: it may be left at any time, gone over again from its begin, and within itself.
func TestAllLeftEarly(t *testing.T) {
	want := []api.Run{run(0, 1), run(2, 1), run(7, 3)}
	q := made(t, want...)
	all := q.All()
	for many := range 5 {
		var l []api.Run
		for x := range all {
			if len(l) == many {
				break
			}
			l = append(l, x)
			if inner := gathered(all); !slices.Equal(inner, want) {
				t.Error("within itself", inner)
			}
		}
		if !slices.Equal(l, want[:min(many, len(want))]) {
			t.Error(many, l)
		}
	}
	calls := 0
	all(func(api.Run) bool { calls++; return false })
	if calls != 1 {
		t.Error("it goes on when it is left", calls)
	}
	for range 2 {
		if l := gathered(all); !slices.Equal(l, want) {
			t.Error(l)
		}
	}
	has(t, q, want...)
}

// changes are calls that change what waits in three, each in another way.
func changes() map[string]func(q *Later) {
	return map[string]func(q *Later){
		"put ahead":             func(q *Later) { q.Put(run(0, 1)) },
		"put between":           func(q *Later) { q.Put(run(17, 1)) },
		"put behind":            func(q *Later) { q.Put(run(40, 1)) },
		"put two together":      func(q *Later) { q.Put(run(15, 5)) },
		"put all together":      func(q *Later) { q.Put(run(0, 99)) },
		"put many":              func(q *Later) { q.Put(run(40, 1), run(0, 1), run(26, 1), run(9, 1)) },
		"cut the first":         func(q *Later) { q.Cut(run(10, 5)) },
		"cut within the middle": func(q *Later) { q.Cut(run(22, 1)) },
		"cut all":               func(q *Later) { q.Cut(run(0, 99)) },
		"next":                  func(q *Later) { q.Next(99) },
		"next byte":             func(q *Later) { q.Next(1) },
		"greatest":              func(q *Later) { q.Greatest() },
		"drained":               func(q *Later) { gathered(q.Drain(2)) },
		"drained, put again":    func(q *Later) { gathered(q.Drain(2)); q.Put(run(11, 2), run(1, 1), run(7, 1)) },
	}
}

func three(t *testing.T) (*Later, []api.Run) {
	t.Helper()
	l := []api.Run{run(10, 5), run(20, 6), run(30, 5)}
	return made(t, l[1], l[2], l[0]), l
}

// P13.3: All tells what waits when it is called, whatever is put or taken off behind that, or meanwhile.
func TestAllAsItIsWhenCalled(t *testing.T) {
	for name, change := range changes() {
		q, want := three(t)
		all := q.All()
		change(q)
		for range 2 {
			if l := gathered(all); !slices.Equal(l, want) {
				t.Error(name, "behind the call", l)
			}
		}
		if slices.Equal(gathered(q.All()), want) {
			t.Error(name, "changes nothing")
		}
		q, _ = three(t)
		var l []api.Run
		for x := range q.All() {
			if l = append(l, x); len(l) == 1 {
				change(q)
			}
		}
		if !slices.Equal(l, want) {
			t.Error(name, "meanwhile", l)
		}
	}
}

// P13.3: Over of bytes that wait not at all, in part, as a whole, by all runs about three.
func TestOver(t *testing.T) {
	q, l := three(t)
	p := newPlain(5, 40)
	p.set(true, l...)
	for at := int64(-2); at < 50; at++ {
		for n := int64(-2); n < 50; n++ {
			p.heldOver(t, q, run(at, n))
		}
	}
	for _, x := range []struct {
		of   api.Run
		want int64
	}{{run(0, top), 16}, {run(0, 10), 0}, {run(15, 5), 0}, {run(35, top-35), 0}, {run(10, 5), 5}, {run(12, 10), 5}, {run(14, 1), 1}, {run(34, top-34), 1}} {
		if n, no := q.Over(x.of); n != x.want || no != api.OK {
			t.Error(x, n, no)
		}
	}
	if n, no := made(t, run(0, top)).Over(run(7, top-7)); n != top-7 || no != api.OK {
		t.Error(n, no)
	}
	has(t, q, l...)
}
