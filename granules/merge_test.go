package granules

import (
	"math"
	"slices"
	"testing"

	"palimpsest/api"
)

// with is a row in which these granules are dirty.
func with(size int64, gran int, dirty ...int) *plain {
	p := newPlain(size, gran)
	for _, g := range dirty {
		p.dirty[g] = true
	}
	return p
}

// P19.4: Merge of none, of one, of many, of itself, once and more often; what is merged in stays.
func TestMergeRows(t *testing.T) {
	const size = 130<<9 - 7
	m := with(size, 9, 0, 64, 100)
	for _, l := range [][]*plain{
		nil, {with(size, 9)}, {with(size, 9, 1)}, {with(size, 9, 0)}, {with(size, 9, 63, 64, 65, 129)}, {with(size, 9, 1), with(size, 9, 2)}, {with(size, 9, 1), with(size, 9, 1)}, {with(size, 9, 129), with(size, 9), with(size, 9, 63, 127), with(size, 9, 128)},
	} {
		p, got := m.another(), m.filled(t)
		var maps []*Map
		for _, o := range l {
			maps = append(maps, o.filled(t))
		}
		handed := slices.Clone(maps)
		p.merge(l...)
		if no := got.Merge(maps...); no != api.OK {
			t.Fatal(no)
		}
		p.tells(t, got)
		if !slices.Equal(handed, maps) {
			t.Error("the list that was handed in is changed")
		}
		for i, o := range l {
			o.is(t, maps[i])
		}
		// What was merged in goes on apart.
		for _, o := range maps {
			o.Set(0, size)
		}
		p.is(t, got)
		got.Clear()
		for _, o := range maps {
			if _, dirty := o.Count(); dirty != 130 {
				t.Error("a map that was merged in changes with the other one")
			}
		}
	}
	got := m.filled(t)
	for _, l := range [][]*Map{{got}, {got, got}, {got, m.filled(t), got}} {
		if no := got.Merge(l...); no != api.OK {
			t.Error(no)
		}
		m.is(t, got)
	}
}

// P19.4: Merge of itself and another one: granules of both are there.
func TestMergeOfItselfAndAnother(t *testing.T) {
	p, o := with(5000, 10, 1, 4), with(5000, 10, 2)
	m, other := p.filled(t), o.filled(t)
	if no := m.Merge(m, other, m); no != api.OK {
		t.Error(no)
	}
	with(5000, 10, 1, 2, 4).tells(t, m)
	o.is(t, other)
}

// P19.4: Merge and Minus refuse in order (one that is not there, then one that is unlike, wherever they stand), and nothing is changed then.
func TestMergeAndMinusRefuse(t *testing.T) {
	p := with(5000, 10, 1, 4)
	like := with(5000, 10, 0, 2).filled(t)
	size, larger, gran, both, none := with(4999, 10, 0).filled(t), with(6000, 10, 0).filled(t), with(5000, 11, 0).filled(t), with(512, 9, 0).filled(t), made(t, 0, 10)
	// As many granules, and as many bytes, in another layout.
	alike := with(5119, 10, 0).filled(t)
	for i, x := range []struct {
		l  []*Map
		no api.Errno
	}{
		{[]*Map{nil}, api.ErrNil}, {[]*Map{{}}, api.ErrNil}, {[]*Map{like, nil}, api.ErrNil}, {[]*Map{nil, like}, api.ErrNil}, {[]*Map{like, {}, like}, api.ErrNil}, {[]*Map{size, nil}, api.ErrNil}, {[]*Map{nil, size}, api.ErrNil}, {[]*Map{like, gran, size, {}}, api.ErrNil},
		{[]*Map{size}, api.ErrUnlike}, {[]*Map{larger}, api.ErrUnlike}, {[]*Map{gran}, api.ErrUnlike}, {[]*Map{both}, api.ErrUnlike}, {[]*Map{none}, api.ErrUnlike}, {[]*Map{alike}, api.ErrUnlike}, {[]*Map{like, size}, api.ErrUnlike}, {[]*Map{gran, like}, api.ErrUnlike}, {[]*Map{like, like, alike, like}, api.ErrUnlike},
	} {
		m := p.filled(t)
		if no := m.Merge(x.l...); no != x.no {
			t.Errorf("%d: Merge %v, want %v", i, no, x.no)
		}
		p.tells(t, m)
		if len(x.l) > 1 {
			continue
		}
		if no := m.Minus(x.l[0]); no != x.no {
			t.Errorf("%d: Minus %v, want %v", i, no, x.no)
		}
		p.tells(t, m)
	}
	if no := made(t, 0, 9).Merge(made(t, 0, 9), made(t, 0, 10)); no != api.ErrUnlike {
		t.Error(no)
	}
	if no := made(t, 0, 9).Merge(made(t, 0, 9)); no != api.OK {
		t.Error(no)
	}
	if no := made(t, 0, 9).Minus(made(t, 0, 10)); no != api.ErrUnlike {
		t.Error(no)
	}
	if api.ErrUnlike != 351 {
		t.Error(api.ErrUnlike)
	}
}

// P19.4: Minus of none, of some, of all, of others, of itself; what is taken away stays where it is.
func TestMinusRows(t *testing.T) {
	const size = 130<<9 - 7
	m := with(size, 9, 0, 63, 64, 100, 129)
	full := newPlain(size, 9)
	full.set(0, size)
	for _, o := range []*plain{with(size, 9), with(size, 9, 0), with(size, 9, 63, 64), with(size, 9, 1, 62, 65, 128), with(size, 9, 129, 1, 100), m, full} {
		p, got, other := m.another(), m.filled(t), o.filled(t)
		p.minus(o)
		if no := got.Minus(other); no != api.OK {
			t.Fatal(no)
		}
		p.tells(t, got)
		o.tells(t, other)
		got, p = full.filled(t), full.another()
		p.minus(o)
		if no := got.Minus(other); no != api.OK {
			t.Fatal(no)
		}
		p.tells(t, got)
		other.Clear()
		p.is(t, got)
	}
	got := m.filled(t)
	if no := got.Minus(got); no != api.OK {
		t.Error(no)
	}
	with(size, 9).tells(t, got)
}

// P19.6: in whatever order maps are merged, the same comes; at once, or one by one.
func TestMergeInAllOrders(t *testing.T) {
	l := []*plain{with(70<<9, 9, 0, 1, 64), with(70<<9, 9, 1, 2, 69), with(70<<9, 9, 63), with(70<<9, 9)}
	want := with(70<<9, 9, 0, 1, 2, 63, 64, 69)
	orders := 0
	for a := range l {
		for b := range l {
			for c := range l {
				d := 6 - a - b - c
				if a == b || a == c || b == c {
					continue
				}
				orders++
				m, o := l[a].filled(t), l[a].filled(t)
				m.Merge(l[b].filled(t), l[c].filled(t), l[d].filled(t))
				want.tells(t, m)
				for _, i := range []int{b, c, d} {
					o.Merge(l[i].filled(t))
				}
				want.tells(t, o)
			}
		}
	}
	if orders != 24 {
		t.Error(orders)
	}
}

// P19.4: Resize up and down, within a granule, over granules and words, from each size to each: what is gone stays gone.
func TestResize(t *testing.T) {
	l := []int64{0, 1, 511, 512, 513, 1024, 1025, 7 << 9, 8 << 9, 9 << 9, 63<<9 + 1, 64<<9 - 1, 64 << 9, 64<<9 + 1, 65<<9 + 1, 128 << 9, 128<<9 + 1, 200<<9 - 3}
	for _, was := range l {
		full := newPlain(was, 9)
		full.set(0, was)
		odd := full.another()
		odd.turn(false, func(g int) bool { return g%3 == 1 })
		for _, size := range l {
			for _, p := range []*plain{full, odd} {
				p, m := p.another(), p.filled(t)
				p.heldResize(t, m, size)
				p.tells(t, m)
				p.heldResize(t, m, was)
				p.tells(t, m)
				p.heldResize(t, m, l[len(l)-1])
				p.tells(t, m)
				// New granules can be set like others, and those that were there are still.
				p.heldSet(t, m, size, l[len(l)-1]-size)
				p.heldResize(t, m, size)
				p.tells(t, m)
			}
		}
	}
}

// P19.4: Resize within the last granule: it stays as it is, and its bytes come and go with the size.
func TestResizeWithinAGranule(t *testing.T) {
	p, m := example(t)
	for _, x := range []struct {
		size int64
		want []stretch
	}{{4097, []stretch{{0, 2048}, {4096, 1}}}, {5120, []stretch{{0, 2048}, {4096, 1024}}}, {5121, []stretch{{0, 2048}, {4096, 1024}}}, {4096, []stretch{{0, 2048}}}, {5000, []stretch{{0, 2048}}}, {1025, []stretch{{0, 1025}}}, {1024, []stretch{{0, 1024}}}, {1, []stretch{{0, 1}}}, {2048, []stretch{{0, 1024}}}, {0, nil}, {5000, nil}} {
		p.heldResize(t, m, x.size)
		if l := stretched(m.Runs()); !slices.Equal(l, x.want) {
			t.Errorf("Resize(%d): %v, want %v", x.size, l, x.want)
		}
		p.tells(t, m)
	}
}

// P19.4: Resize to sizes that may not be changes nothing; to the greatest it goes, and back.
func TestResizeOfOddNumbers(t *testing.T) {
	for _, size := range odd() {
		p, m := example(t)
		if allowed(size, 10) {
			p.heldResize(t, m, size)
			continue
		}
		if no := m.Resize(size); no != api.ErrArg {
			t.Errorf("Resize(%d) %v", size, no)
		}
		p.tells(t, m)
	}
	m := made(t, most, 9)
	m.Set(0, most)
	for _, size := range []int64{0, most, 1, most - 1} {
		if no := m.Resize(size); no != api.OK {
			t.Error(size, no)
		}
	}
	if many, dirty := m.Count(); many != 131072 || dirty != 0 {
		t.Error(many, dirty)
	}
}

// P19.4: To of each Gran from each, of no granules, of all, of each alone, of sizes about granules' edges; it goes on apart.
func TestToOfEachFromEach(t *testing.T) {
	for from := 9; from <= 26; from++ {
		for to := 9; to <= 26; to++ {
			for _, size := range []int64{0, 1, 513, 1<<from - 1, 1<<from + 1, 3<<to - 1, 5<<from - 1<<9} {
				if size > min(most, 40<<min(from, to)) {
					continue
				}
				p := newPlain(size, from)
				p.heldTo(t, p.filled(t), to)
				for g := range p.dirty {
					one := p.another()
					one.dirty[g] = true
					one.heldTo(t, one.filled(t), to)
				}
				p.set(0, size)
				p.heldTo(t, p.filled(t), to)
			}
		}
	}
}

// P19.4: To of the greatest maps.
func TestToOfTheGreatest(t *testing.T) {
	fine, far := made(t, most, 9), made(t, most, 26)
	fine.Set(1000, 1)
	o, no := fine.To(26)
	if b := o.Bytes(); no != api.OK || len(b) != 1 || b[0] != 1 {
		t.Error(b, no)
	}
	o, _ = far.To(9)
	if many, dirty := o.Count(); many != 131072 || dirty != 0 {
		t.Error(many, dirty)
	}
	far.Set(most-1, 1)
	o, _ = far.To(9)
	if many, dirty := o.Count(); many != 131072 || dirty != 131072 {
		t.Error(many, dirty)
	}
	o, _ = fine.To(20)
	if l := stretched(o.Runs()); !slices.Equal(l, []stretch{{0, 1 << 20}}) {
		t.Error(l)
	}
}

// P19.4: To of a Gran that may not be; of the same Gran; the other map and this one go on apart.
func TestToRefusesAndGoesOnApart(t *testing.T) {
	p, m := example(t)
	for _, gran := range grans() {
		if allowed(0, gran) {
			q, o := p.heldTo(t, m, gran)
			o.Set(0, 5000)
			p.is(t, m)
			o.Resize(1)
			p.tells(t, m)
			_, o = p.heldTo(t, m, gran)
			c := p.filled(t)
			again, _ := c.To(gran)
			c.Clear()
			q.tells(t, again)
			q.tells(t, o)
			continue
		}
		if o, no := m.To(gran); o != nil || no != api.ErrArg {
			t.Errorf("To(%d): %v %v", gran, o, no)
		}
		p.tells(t, m)
	}
	if o, no := m.To(math.MaxInt32); o != nil || no != api.ErrArg {
		t.Error(o, no)
	}
}

// P19.4: the chapter's examples of To.
func TestToOfTheExamples(t *testing.T) {
	m := with(5000, 10, 1).filled(t)
	_, fine := with(5000, 10, 1).heldTo(t, m, 9)
	if l := listed(fine.All()); !slices.Equal(l, []int64{2, 3}) {
		t.Error(l)
	}
	_, far := with(5000, 10, 1).heldTo(t, m, 11)
	if l := listed(far.All()); !slices.Equal(l, []int64{0}) {
		t.Error(l)
	}
	// Of the last granule only those finer ones are there that have a byte below the size.
	_, last := with(4200, 10, 4).heldTo(t, with(4200, 10, 4).filled(t), 9)
	if l := listed(last.All()); !slices.Equal(l, []int64{8}) {
		t.Error(l)
	}
}

// P19.6: to a coarser Gran and back never loses a dirty byte, of all rows of a few granules; to a finer one and back nothing changes.
func TestToAndBack(t *testing.T) {
	for _, size := range []int64{4096, 4095, 3585, 3584} {
		for x := range 1 << ((size + 511) / 512) {
			m, no := Open(size, 9, []byte{byte(x)})
			if no != api.OK {
				t.Fatal(no)
			}
			for gran := 9; gran <= 14; gran++ {
				far, _ := m.To(gran)
				back, no := far.To(9)
				if no != api.OK {
					t.Fatal(no)
				}
				lost := m.Copy()
				if no := lost.Minus(back); no != api.OK {
					t.Fatal(no)
				}
				if _, dirty := lost.Count(); dirty != 0 {
					t.Fatalf("%d %08b: to %d and back loses %d", size, x, gran, dirty)
				}
				if further, _ := back.To(gran); !further.Same(far) {
					t.Fatalf("%d %08b: to %d, to 9 and back is another one", size, x, gran)
				}
			}
		}
	}
}
