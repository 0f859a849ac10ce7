package granules

import (
	"bytes"
	"testing"

	"palimpsest/api"
)

// P19.5: Count and Size, as granules come and go.
func TestCountAndSize(t *testing.T) {
	m := made(t, 130<<9-1, 9)
	step := func(many, dirty int, size int64) {
		t.Helper()
		if n, k := m.Count(); n != many || k != dirty {
			t.Errorf("Count %d %d, want %d %d", n, k, many, dirty)
		}
		if n, gran := m.Size(); n != size || gran != 9 {
			t.Errorf("Size %d %d, want %d 9", n, gran, size)
		}
	}
	step(130, 0, 130<<9-1)
	m.Set(63<<9, 513)
	step(130, 2, 130<<9-1)
	m.Set(130<<9-2, 1)
	step(130, 3, 130<<9-1)
	m.Resize(64 << 9)
	step(64, 1, 64<<9)
	m.Reset(0, 64<<9)
	step(64, 0, 64<<9)
	m.Set(0, 64<<9)
	step(64, 64, 64<<9)
	m.Resize(1)
	step(1, 1, 1)
	m.Resize(0)
	step(0, 0, 0)
	m.Resize(most)
	step(131072, 0, most)
	m.Set(0, most)
	step(131072, 131072, most)
	m.Clear()
	step(131072, 0, most)
}

// P19.5: the same size, Gran and granules, however they came; others by one of these.
func TestSame(t *testing.T) {
	p := with(130<<9-1, 9, 0, 63, 64, 129)
	m := p.filled(t)
	o := made(t, p.size, 9)
	o.Set(0, p.size)
	for g := range p.dirty {
		if !p.dirty[g] {
			o.Reset(p.first(g), 512)
		}
	}
	if !m.Same(o) || !o.Same(m) || !m.Same(m) {
		t.Error("the same")
	}
	for g := range p.dirty {
		q := p.another()
		q.dirty[g] = !q.dirty[g]
		if o := q.filled(t); m.Same(o) || o.Same(m) {
			t.Error("another granule", g)
		}
	}
	for _, size := range []int64{0, 1, p.size - 1, p.size + 1, p.size + 2, most} {
		o := m.Copy()
		o.Resize(size)
		if m.Same(o) || o.Same(m) {
			t.Error("another size", size)
		}
		none := made(t, p.size, 9)
		if o := made(t, size, 9); none.Same(o) || o.Same(none) {
			t.Error("another size", size, "without dirty granules")
		}
	}
	for gran := 10; gran <= 26; gran++ {
		for _, size := range []int64{0, 1, 512, 513, most} {
			a, b := made(t, size, 9), made(t, size, gran)
			if a.Same(b) || b.Same(a) {
				t.Error("another Gran", size, gran)
			}
		}
	}
	o = m.Copy()
	o.Resize(64 << 9)
	o.Resize(p.size)
	if m.Same(o) || !o.Same(with(p.size, 9, 0, 63).filled(t)) {
		t.Error("shrunk and grown")
	}
}

// P19.5: those that are not there are the same, be they nil or zero, and are not as one that is there.
func TestSameOfNone(t *testing.T) {
	var gone *Map
	for _, a := range []*Map{gone, nil, {}} {
		for _, b := range []*Map{gone, nil, {}} {
			if !a.Same(b) {
				t.Error("two that are not there")
			}
		}
		for _, b := range []*Map{made(t, 0, 9), made(t, 5000, 10), with(512, 9, 0).filled(t), made(t, 0, 9).Copy()} {
			if a.Same(b) || b.Same(a) {
				t.Error("one that is there")
			}
		}
	}
}

// P19.5: a copy is the same, and goes on apart, whichever of the two is changed, and a copy of it too.
func TestCopy(t *testing.T) {
	for name, change := range changes(t) {
		p, m := example(t)
		c := m.Copy()
		if c == nil || c == m || !c.Same(m) || !m.Same(c) {
			t.Fatal(name, c)
		}
		further := c.Copy()
		change(m)
		p.tells(t, c)
		changed := m.Copy()
		if changed.Same(c) {
			t.Error(name, "nothing is changed")
		}
		change(c)
		if !c.Same(changed) || !m.Same(changed) {
			t.Error(name, "the copy is changed otherwise")
		}
		p.tells(t, further)
		change(further)
		if !further.Same(changed) {
			t.Error(name, "the copy's copy is changed otherwise")
		}
	}
	for _, size := range []int64{0, 1, 64 << 9, 65 << 9, most} {
		p, m := newPlain(size, 9), made(t, size, 9)
		p.is(t, m.Copy())
		m.Set(0, size)
		p.set(0, size)
		p.is(t, m.Copy())
	}
}

// P19.1 to P19.5: every call of a nil map and of a zero one: ErrNil ahead of all other errors, lists of nothing, numbers of 0.
func TestNone(t *testing.T) {
	for _, m := range []*Map{nil, {}} {
		for _, at := range odd() {
			noneAt(t, m, at)
		}
		for _, no := range []api.Errno{m.Clear(), m.Merge(), m.Merge(nil), m.Merge(m), m.Merge(made(t, 0, 9)), m.Merge(made(t, 0, 9), made(t, 1, 10)), m.Minus(nil), m.Minus(m), m.Minus(made(t, 0, 9))} {
			if no != api.ErrNil {
				t.Error(no)
			}
		}
		for _, gran := range grans() {
			if o, no := m.To(gran); o != nil || no != api.ErrNil {
				t.Error("To", o, no)
			}
		}
		if many, dirty := m.Count(); many != 0 || dirty != 0 {
			t.Error("Count", many, dirty)
		}
		if size, gran := m.Size(); size != 0 || gran != 0 {
			t.Error("Size", size, gran)
		}
		if b := m.Bytes(); len(b) != 0 {
			t.Error("Bytes", b)
		}
		if m.Copy() != nil {
			t.Error("Copy")
		}
		all, runs := m.All(), m.Runs()
		if all == nil || runs == nil {
			t.Fatal("All, Runs")
		}
		for range all {
			t.Error("All tells something")
		}
		for range runs {
			t.Error("Runs tells something")
		}
		if !m.Same(nil) || !m.Same(&Map{}) {
			t.Error("it is there now")
		}
	}
}

// noneAt holds the calls that have a number against what a map that is not there answers.
func noneAt(t *testing.T, m *Map, at int64) {
	t.Helper()
	for _, n := range []int64{at, 0, 1, -1} {
		if many, no := m.Set(at, n); many != 0 || no != api.ErrNil {
			t.Error("Set", many, no)
		}
		if many, no := m.Reset(at, n); many != 0 || no != api.ErrNil {
			t.Error("Reset", many, no)
		}
	}
	if dirty, no := m.Has(at); dirty || no != api.ErrNil {
		t.Error("Has", dirty, no)
	}
	for _, dirty := range []bool{false, true} {
		if g, ok := m.Next(at, dirty); g != 0 || ok {
			t.Error("Next", g, ok)
		}
	}
	if no := m.Resize(at); no != api.ErrNil {
		t.Error("Resize", no)
	}
}

// P19.1 to P19.5: a map of no bytes is there all the same.
func TestOfNoBytes(t *testing.T) {
	for gran := 9; gran <= 26; gran++ {
		m := made(t, 0, gran)
		newPlain(0, gran).tells(t, m)
		for _, no := range []api.Errno{m.Clear(), m.Merge(), m.Merge(m), m.Minus(m), m.Resize(0)} {
			if no != api.OK {
				t.Error(no)
			}
		}
		o, no := m.To(35 - gran)
		if no != api.OK {
			t.Error(no)
		}
		newPlain(0, 35-gran).tells(t, o)
		newPlain(0, gran).tells(t, m.Copy())
		if !bytes.Equal(m.Bytes(), nil) {
			t.Error(m.Bytes())
		}
	}
}
