package granules

import (
	"math"
	"slices"
	"testing"

	"palimpsest/api"
)

// P19.3: Next by rows: of none, of all, of some, over whole words, from below 0 and from behind the last.
func TestNextRows(t *testing.T) {
	none, all := newPlain(200<<9, 9), newPlain(200<<9, 9)
	all.set(0, all.size)
	some := newPlain(200<<9-1, 9)
	for _, g := range []int{0, 63, 64, 127, 191, 199} {
		some.dirty[g] = true
	}
	for _, x := range []struct {
		p     *plain
		from  int64
		dirty bool
		want  int64
		ok    bool
	}{
		{none, 0, true, 0, false}, {none, 0, false, 0, true}, {none, -1, false, 0, true}, {none, math.MinInt64, false, 0, true}, {none, 63, false, 63, true}, {none, 64, false, 64, true}, {none, 199, false, 199, true}, {none, 200, false, 0, false}, {none, 255, false, 0, false}, {none, 256, false, 0, false}, {none, math.MaxInt64, false, 0, false},
		{all, 0, false, 0, false}, {all, 0, true, 0, true}, {all, -5, true, 0, true}, {all, math.MinInt64, true, 0, true}, {all, 64, true, 64, true}, {all, 199, true, 199, true}, {all, 199, false, 0, false}, {all, 200, true, 0, false}, {all, 200, false, 0, false}, {all, math.MaxInt64, true, 0, false}, {all, math.MaxInt64, false, 0, false},
		{some, -1, true, 0, true}, {some, 0, true, 0, true}, {some, 1, true, 63, true}, {some, 63, true, 63, true}, {some, 64, true, 64, true}, {some, 65, true, 127, true}, {some, 128, true, 191, true}, {some, 192, true, 199, true}, {some, 199, true, 199, true}, {some, 200, true, 0, false},
		{some, -1, false, 1, true}, {some, 0, false, 1, true}, {some, 62, false, 62, true}, {some, 63, false, 65, true}, {some, 64, false, 65, true}, {some, 127, false, 128, true}, {some, 198, false, 198, true}, {some, 199, false, 0, false}, {some, 200, false, 0, false}, {some, 201, false, 0, false},
	} {
		if g, ok := x.p.filled(t).Next(x.from, x.dirty); g != x.want || ok != x.ok {
			t.Errorf("%v: Next(%d, %v) %d %v, want %d %v", x.p.all(), x.from, x.dirty, g, ok, x.want, x.ok)
		}
	}
	m := made(t, 0, 9)
	for _, from := range odd() {
		for _, dirty := range []bool{false, true} {
			if g, ok := m.Next(from, dirty); g != 0 || ok {
				t.Error("of no granules", from, g, ok)
			}
		}
	}
}

// P19.3: Next from each granule, of one that is dirty alone and of one that alone is not, at all numbers of granules about those of whole words.
func TestNextFromEach(t *testing.T) {
	for _, many := range []int{1, 2, 8, 63, 64, 65, 127, 128, 129, 192} {
		none, all := newPlain(int64(many)<<9, 9), newPlain(int64(many)<<9-511, 9)
		all.set(0, all.size)
		for g := range many {
			one, other := none.another(), all.another()
			one.dirty[g], other.dirty[g] = true, false
			m, o := one.filled(t), other.filled(t)
			for from := -1; from < many+70; from++ {
				one.heldNext(t, m, int64(from))
				other.heldNext(t, o, int64(from))
			}
		}
	}
}

// P19.3: of the greatest map, one granule that is dirty, and one that is not, far from where they are sought.
func TestNextOfTheGreatest(t *testing.T) {
	m := made(t, most, 9)
	m.Set(most-1, 1)
	if g, ok := m.Next(0, true); g != 131071 || !ok {
		t.Error(g, ok)
	}
	if g, ok := m.Next(131071, false); g != 0 || ok {
		t.Error(g, ok)
	}
	if many, no := m.Set(0, most); many != 131071 || no != api.OK {
		t.Error(many, no)
	}
	if g, ok := m.Next(0, false); g != 0 || ok {
		t.Error(g, ok)
	}
	if l := stretched(m.Runs()); !slices.Equal(l, []stretch{{0, most}}) {
		t.Error(l)
	}
	if l := listed(m.All()); len(l) != 131072 || l[0] != 0 || l[77777] != 77777 || l[131071] != 131071 {
		t.Error(len(l))
	}
	if many, no := m.Reset(100000<<9, 512); many != 1 || no != api.OK {
		t.Error(many, no)
	}
	if g, ok := m.Next(1, false); g != 100000 || !ok {
		t.Error(g, ok)
	}
	if l := stretched(m.Runs()); !slices.Equal(l, []stretch{{0, 51200000}, {51200512, most - 51200512}}) {
		t.Error(l)
	}
}

// P19.3: Runs by rows: as long as can be, and no byte beyond the size.
func TestRunsRows(t *testing.T) {
	for _, x := range []struct {
		size int64
		gran int
		b    []byte
		want []stretch
	}{
		{0, 9, nil, nil}, {1, 9, []byte{0}, nil}, {1, 9, []byte{1}, []stretch{{0, 1}}}, {1, 26, []byte{1}, []stretch{{0, 1}}}, {most, 26, []byte{1}, []stretch{{0, most}}}, {most - 1, 26, []byte{1}, []stretch{{0, most - 1}}},
		{5000, 10, []byte{0x13}, []stretch{{0, 2048}, {4096, 904}}}, {5000, 10, []byte{0x1f}, []stretch{{0, 5000}}}, {5000, 10, []byte{0x15}, []stretch{{0, 1024}, {2048, 1024}, {4096, 904}}}, {5000, 10, []byte{0x0e}, []stretch{{1024, 3072}}}, {5000, 10, []byte{0x18}, []stretch{{3072, 1928}}},
		{8192, 10, []byte{0xff}, []stretch{{0, 8192}}}, {8191, 10, []byte{0x80}, []stretch{{7168, 1023}}}, {8193, 10, []byte{0, 1}, []stretch{{8192, 1}}}, {8193, 10, []byte{0x80, 1}, []stretch{{7168, 1025}}}, {8193, 10, []byte{0x81, 0}, []stretch{{0, 1024}, {7168, 1024}}},
	} {
		m, no := Open(x.size, x.gran, x.b)
		if no != api.OK {
			t.Fatal(x.size, x.gran, x.b, no)
		}
		if l := stretched(m.Runs()); !slices.Equal(l, x.want) {
			t.Errorf("%d %d %v: %v, want %v", x.size, x.gran, x.b, l, x.want)
		}
	}
}

// P19.3: runs that begin and end about where words do.
func TestRunsOverWords(t *testing.T) {
	for _, size := range []int64{200 << 9, 192<<9 - 100, 128 << 9} {
		p := newPlain(size, 9)
		edges := []int{0, 1, 62, 63, 64, 65, 126, 127, 128, len(p.dirty) - 1, len(p.dirty)}
		for _, from := range edges {
			for _, to := range edges {
				if from >= to || to > len(p.dirty) {
					continue
				}
				q := p.another()
				q.turn(true, func(g int) bool { return g >= from && g < to })
				q.tells(t, q.filled(t))
				o := p.another()
				o.turn(true, func(g int) bool { return g < from || g >= to })
				o.tells(t, o.filled(t))
			}
		}
	}
}

// P19.3: both may be left at any time, and gone over again from their begins.
func TestListsLeftEarly(t *testing.T) {
	p := newPlain(130<<9-1, 9)
	for _, g := range []int{0, 1, 2, 62, 63, 64, 65, 100, 128, 129} {
		p.dirty[g] = true
	}
	m := p.filled(t)
	all, runs := m.All(), m.Runs()
	for many := range 12 {
		var l []int64
		for g := range all {
			if len(l) == many {
				break
			}
			l = append(l, g)
		}
		if want := p.all(); !slices.Equal(l, want[:min(many, len(want))]) {
			t.Error(many, l)
		}
		var r []stretch
		for at, n := range runs {
			if len(r) == many {
				break
			}
			r = append(r, stretch{at, n})
		}
		if want := p.runs(); !slices.Equal(r, want[:min(many, len(want))]) {
			t.Error(many, r)
		}
	}
	for many := 1; many < 12; many++ {
		calls, want := 0, min(many, 10)+min(many, 4)
		left := many
		all(func(int64) bool { calls++; left--; return left > 0 })
		left = many
		runs(func(int64, int64) bool { calls++; left--; return left > 0 })
		if calls != want {
			t.Error("they go on when they are left", many, calls)
		}
	}
	for range 2 {
		if l, r := listed(all), stretched(runs); !slices.Equal(l, p.all()) || !slices.Equal(r, p.runs()) {
			t.Error(l, r)
		}
	}
}

// P19.3: two that go over one map at a time, one inside the other, do not disturb each other.
func TestListsWithinThemselves(t *testing.T) {
	p, m := example(t)
	all, runs := m.All(), m.Runs()
	many := 0
	for range all {
		for range runs {
			many++
			if l := listed(all); !slices.Equal(l, p.all()) {
				t.Fatal(l)
			}
			if l := stretched(runs); !slices.Equal(l, p.runs()) {
				t.Fatal(l)
			}
		}
	}
	if many != 6 {
		t.Error(many)
	}
}

// changes are calls that change a map of 5000 bytes and the Gran 10, each in another way.
func changes(t *testing.T) map[string]func(m *Map) {
	t.Helper()
	other := made(t, 5000, 10)
	other.Set(3000, 1)
	like := made(t, 5000, 10)
	like.Set(0, 1)
	return map[string]func(m *Map){
		"set between":            func(m *Map) { m.Set(2048, 1) },
		"set all":                func(m *Map) { m.Set(0, 5000) },
		"reset the first":        func(m *Map) { m.Reset(0, 1024) },
		"reset the last":         func(m *Map) { m.Reset(4096, 904) },
		"reset all":              func(m *Map) { m.Reset(0, 5000) },
		"clear":                  func(m *Map) { m.Clear() },
		"clear, set":             func(m *Map) { m.Clear(); m.Set(2500, 1000) },
		"merge":                  func(m *Map) { m.Merge(other, like) },
		"minus":                  func(m *Map) { m.Minus(like) },
		"minus itself":           func(m *Map) { m.Minus(m) },
		"shrink":                 func(m *Map) { m.Resize(1024) },
		"shrink within the last": func(m *Map) { m.Resize(4097) },
		"shrink to nothing":      func(m *Map) { m.Resize(0) },
		"shrink and grow":        func(m *Map) { m.Resize(0); m.Resize(5000); m.Set(2048, 1) },
		"grow":                   func(m *Map) { m.Resize(5120) },
		"grow and set":           func(m *Map) { m.Resize(most); m.Set(0, most) },
	}
}

// P19.3: both tell what there is when they are called, whatever is changed behind that, or meanwhile.
func TestListsAsTheyAreWhenCalled(t *testing.T) {
	for name, change := range changes(t) {
		p, m := example(t)
		all, runs := m.All(), m.Runs()
		change(m)
		for range 2 {
			if l, r := listed(all), stretched(runs); !slices.Equal(l, p.all()) || !slices.Equal(r, p.runs()) {
				t.Error(name, "behind the call", l, r)
			}
		}
		_, m = example(t)
		var l []int64
		for g := range m.All() {
			if l = append(l, g); len(l) == 1 {
				change(m)
			}
		}
		if !slices.Equal(l, p.all()) {
			t.Error(name, "meanwhile", l)
		}
		_, m = example(t)
		var r []stretch
		for at, n := range m.Runs() {
			if r = append(r, stretch{at, n}); len(r) == 1 {
				change(m)
			}
		}
		if !slices.Equal(r, p.runs()) {
			t.Error(name, "meanwhile", r)
		}
	}
}

// P19.3: many iterators, each made at another time, tell what was there at theirs.
func TestListsOfManyTimes(t *testing.T) {
	p, m := newPlain(100<<9, 9), made(t, 100<<9, 9)
	var told []func() bool
	keep := func() {
		all, runs, want, wantRuns := m.All(), m.Runs(), p.all(), p.runs()
		told = append(told, func() bool { return slices.Equal(listed(all), want) && slices.Equal(stretched(runs), wantRuns) })
	}
	keep()
	for i := range int64(60) {
		p.heldSet(t, m, i*37%100<<9, 1)
		keep()
	}
	for i := range int64(60) {
		p.heldReset(t, m, i*37%100<<9, 1024)
		keep()
	}
	for i, right := range told {
		if !right() {
			t.Error("another list than at its call", i)
		}
	}
}
