package regions

import (
	"testing"

	"palimpsest/api"
)

// P12.5: the same regions, however they came; others by one field.
func TestSame(t *testing.T) {
	r, l := three(t)
	o := made(t, l[2], region(9, 0, 1), l[0], l[1])
	if r.Same(o) || o.Same(r) {
		t.Error("one more")
	}
	o.Take(0)
	if !r.Same(o) || !o.Same(r) || !r.Same(r) {
		t.Error("the same")
	}
	if !New().Same(New()) || New().Same(r) || r.Same(New()) {
		t.Error("none")
	}
	for i := range l {
		for _, other := range []api.Region{{Kind: l[i].Kind + 1, At: l[i].At, Len: l[i].Len}, {Kind: l[i].Kind, At: l[i].At + 1, Len: l[i].Len}, {Kind: l[i].Kind, At: l[i].At, Len: l[i].Len + 1}} {
			o := made(t, l...)
			o.Take(l[i].At)
			if r.Same(o) || o.Same(r) {
				t.Error("one less", i)
			}
			o.Put(other)
			if r.Same(o) || o.Same(r) {
				t.Error("another one", other)
			}
			o.Take(other.At)
			o.Put(l[i])
			if !r.Same(o) || !o.Same(r) {
				t.Error("back again", i)
			}
		}
	}
	has(t, r, l...)
}

// P12.5: those that are not there are the same, be they nil or zero, and are not as one without regions.
func TestSameOfNone(t *testing.T) {
	var gone *Regions
	zero := &Regions{}
	for _, a := range []*Regions{gone, nil, zero, {}} {
		for _, b := range []*Regions{gone, nil, zero, {}} {
			if !a.Same(b) {
				t.Error("two that are not there")
			}
		}
		for _, b := range []*Regions{New(), made(t, region(1, 0, 1)), New().Copy()} {
			if a.Same(b) || b.Same(a) {
				t.Error("one that is there")
			}
		}
	}
}

// P12.5: a copy is the same, and goes on apart, whichever of the two is changed, and a copy of it too.
func TestCopy(t *testing.T) {
	for name, change := range changes() {
		r, l := three(t)
		c := r.Copy()
		if c == nil || c == r || !c.Same(r) {
			t.Fatal(name, c)
		}
		further := c.Copy()
		change(r)
		has(t, c, l...)
		changed := gathered(r.All())
		change(c)
		has(t, c, changed...)
		has(t, r, changed...)
		has(t, further, l...)
		change(further)
		has(t, further, changed...)
	}
	c := New().Copy()
	has(t, c)
	if !c.Same(New()) {
		t.Error("none")
	}
	if n, no := c.Put(region(1, 0, 1)); n != 1 || no != api.OK {
		t.Error(n, no)
	}
}

// P12.5: both go on behind the same last region, with other regions.
func TestCopiesGoOnApart(t *testing.T) {
	for spare := range 12 {
		r := New()
		for i := range spare {
			r.Put(region(1, int64(i), 1))
		}
		ahead := gathered(r.All())
		c, d := r.Copy(), r.Copy()
		for i := range 5 {
			r.Put(region(2, int64(100+i), 1))
			c.Put(region(3, int64(200+i), 1))
			d.Put(region(4, int64(300+i), 1))
		}
		for kind, x := range map[int]*Regions{2: r, 3: c, 4: d} {
			want := ahead[:len(ahead):len(ahead)]
			for i := range 5 {
				want = append(want, region(kind, int64(100*(kind-1)+i), 1))
			}
			has(t, x, want...)
		}
	}
}

// P12.1 to P12.5: every call of a nil one and of a zero one: ErrNil ahead of all other errors, lists of nothing, numbers of 0.
func TestNone(t *testing.T) {
	for _, r := range []*Regions{nil, {}} {
		for _, l := range [][]api.Region{nil, {region(1, 0, 1)}, {{}}, bytewise(70000)} {
			if n, no := r.Put(l...); n != 0 || no != api.ErrNil {
				t.Error("Put", n, no)
			}
		}
		for _, at := range odd() {
			noneAt(t, r, at)
		}
		for kind := -1; kind < 19; kind++ {
			if many, bytes := r.Count(kind); many != 0 || bytes != 0 {
				t.Error("Count", many, bytes)
			}
		}
		if r.End() != 0 || r.Copy() != nil {
			t.Error("End, Copy")
		}
		all := r.All()
		if all == nil {
			t.Fatal("All")
		}
		for range all {
			t.Error("All tells something")
		}
	}
}

// noneAt holds the calls that have a place against what one that is not there answers.
func noneAt(t *testing.T, r *Regions, at int64) {
	t.Helper()
	if one, no := r.Take(at); one != (api.Region{}) || no != api.ErrNil {
		t.Error("Take", one, no)
	}
	if no := r.Move(at, at); no != api.ErrNil {
		t.Error("Move", no)
	}
	for _, but := range [][]int{nil, {1}, {0}, {99}} {
		if one, ok, no := r.Ask(at, at, but...); one != (api.Region{}) || ok || no != api.ErrNil {
			t.Error("Ask", one, ok, no)
		}
	}
	if one, ok := r.Of(at); one != (api.Region{}) || ok {
		t.Error("Of", one, ok)
	}
	if place, no := r.First(at, at, at); place != 0 || no != api.ErrNil {
		t.Error("First", place, no)
	}
	gaps := r.Gaps(at)
	if gaps == nil {
		t.Fatal("Gaps")
	}
	for range gaps {
		t.Error("Gaps tells something")
	}
}
