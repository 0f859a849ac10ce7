package later

import (
	"testing"

	"palimpsest/api"
)

// P13.4: the same bytes, however they came; others by one byte, or one run.
func TestSame(t *testing.T) {
	q, l := three(t)
	o := made(t)
	for _, x := range []api.Run{run(34, 1), run(20, 3), run(10, 5), run(23, 3), run(30, 3)} {
		if q.Same(o) || o.Same(q) {
			t.Error("not yet", gathered(o.All()))
		}
		o.Put(x)
	}
	if q.Same(o) || o.Same(q) {
		t.Error("a byte less")
	}
	o.Put(run(33, 1))
	if !q.Same(o) || !o.Same(q) || !q.Same(q) {
		t.Error("the same")
	}
	for name, change := range changes() {
		o := made(t, l...)
		change(o)
		if q.Same(o) || o.Same(q) {
			t.Error(name)
		}
		o.Cut(run(0, top))
		if q.Same(o) || o.Same(q) || !o.Same(made(t)) || !made(t).Same(o) {
			t.Error(name, "all cut")
		}
		o.Put(l...)
		if !q.Same(o) || !o.Same(q) {
			t.Error(name, "back again")
		}
	}
	has(t, q, l...)
}

// P13.4: as many runs and bytes in all, lying otherwise.
func TestSameOfOthers(t *testing.T) {
	all := []*Later{made(t, run(0, 1), run(2, 2)), made(t, run(0, 2), run(3, 1)), made(t, run(0, 1), run(3, 2)), made(t, run(1, 1), run(3, 2)), made(t, run(0, 3)), made(t, run(1, 3)), made(t, run(0, 1), run(2, 1), run(4, 1)), made(t)}
	for i, a := range all {
		for k, b := range all {
			if a.Same(b) != (i == k) {
				t.Error(i, k)
			}
		}
	}
}

// P13.4: those that are not there are the same, be they nil or zero, and are not as one in which nothing waits.
func TestSameOfNone(t *testing.T) {
	var gone *Later
	refused, _ := New(run(0, 0))
	zero := &Later{}
	for _, a := range []*Later{gone, nil, refused, zero, {}} {
		for _, b := range []*Later{gone, nil, refused, zero, {}} {
			if !a.Same(b) {
				t.Error("two that are not there")
			}
		}
		for _, b := range []*Later{made(t), made(t, run(0, 1)), made(t).Copy()} {
			if a.Same(b) || b.Same(a) {
				t.Error("one that is there")
			}
		}
	}
}

// P13.4: a copy is the same, and goes on apart, whichever of the two is changed, and a copy of it too.
func TestCopy(t *testing.T) {
	for name, change := range changes() {
		q, l := three(t)
		c := q.Copy()
		if c == nil || c == q || !c.Same(q) || !q.Same(c) {
			t.Fatal(name, c)
		}
		further := c.Copy()
		change(q)
		has(t, c, l...)
		changed := gathered(q.All())
		change(c)
		has(t, c, changed...)
		has(t, q, changed...)
		has(t, further, l...)
		change(further)
		has(t, further, changed...)
	}
	c := made(t).Copy()
	has(t, c)
	if n, no := c.Put(run(0, 1)); n != 1 || no != api.OK {
		t.Error(n, no)
	}
}

// P13.4: a copy of one in whose heap much was put and taken off tells the same, call by call.
func TestCopyGoesOnAlike(t *testing.T) {
	q := made(t)
	for i := range int64(200) {
		q.Put(run(i*37%200*3, 1+i%3))
		if i%7 == 0 {
			q.Next(1)
		}
	}
	c := q.Copy()
	for {
		x, no := q.Next(2)
		y, other := c.Next(2)
		if x != y || no != other {
			t.Fatal(x, no, y, other)
		}
		x, no = q.Greatest()
		y, other = c.Greatest()
		if x != y || no != other {
			t.Fatal(x, no, y, other)
		}
		if no == api.ErrNone {
			break
		}
	}
}

// P13.4: a full one is copied whole, and as full.
func TestCopyOfFull(t *testing.T) {
	q, l := full(t)
	c := q.Copy()
	has(t, c, l...)
	if n, no := c.Put(run(2*most, 1)); n != 0 || no != api.ErrFull {
		t.Error(n, no)
	}
	c.Next(1)
	has(t, q, l...)
	has(t, c, l[1:]...)
}

// P13.1 to P13.4: every call of a nil one and of a zero one: ErrNil ahead of all other errors, lists of nothing, numbers of 0.
func TestNone(t *testing.T) {
	refused, _ := New(run(0, 0))
	for _, q := range []*Later{nil, refused, {}} {
		for _, l := range [][]api.Run{nil, {run(0, 1)}, {{}}, {run(-1, 1)}, apart(most + 1)} {
			if n, no := q.Put(l...); n != 0 || no != api.ErrNil {
				t.Error("Put", n, no)
			}
		}
		for _, at := range odd() {
			for _, n := range odd() {
				if n, no := q.Cut(run(at, n)); n != 0 || no != api.ErrNil {
					t.Error("Cut", n, no)
				}
				if n, no := q.Over(run(at, n)); n != 0 || no != api.ErrNil {
					t.Error("Over", n, no)
				}
			}
			if x, no := q.Next(at); x != (api.Run{}) || no != api.ErrNil {
				t.Error("Next", x, no)
			}
			drain := q.Drain(at)
			if drain == nil {
				t.Fatal("Drain")
			}
			for range drain {
				t.Error("Drain tells something")
			}
		}
		if x, no := q.Greatest(); x != (api.Run{}) || no != api.ErrNil {
			t.Error("Greatest", x, no)
		}
		if n, b := q.Size(); n != 0 || b != 0 || q.Copy() != nil {
			t.Error("Size, Copy", n, b)
		}
		all := q.All()
		if all == nil {
			t.Fatal("All")
		}
		for range all {
			t.Error("All tells something")
		}
	}
}
