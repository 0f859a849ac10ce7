package granules

import (
	"bytes"
	"iter"
	"math"
	"slices"
	"testing"

	"palimpsest/api"
)

// most is the bound of sizes, as the document says it.
const most = int64(67108864)

// stretch is bytes one behind the other.
type stretch struct{ at, n int64 }

// listed is all that All tells.
func listed(all iter.Seq[int64]) []int64 {
	var l []int64
	for g := range all {
		l = append(l, g)
	}
	return l
}

// stretched is all that Runs tells.
func stretched(runs iter.Seq2[int64, int64]) []stretch {
	var l []stretch
	for at, n := range runs {
		l = append(l, stretch{at, n})
	}
	return l
}

// made is a map without dirty granules.
func made(t *testing.T, size int64, gran int) *Map {
	t.Helper()
	m, no := New(size, gran)
	if m == nil || no != api.OK {
		t.Fatalf("New(%d, %d): %v %v", size, gran, m, no)
	}
	return m
}

// odd are numbers at which sums, shifts and bounds may go wrong.
func odd() []int64 {
	return []int64{0, 1, -1, 2, -2, 511, 512, 513, 1023, 1024, 1025, 4999, 5000, 5001, 1<<15 - 1, 1 << 15, 1<<15 + 1, most - 1, most, most + 1, 2 * most, -most, 1 << 31, 1<<32 + 1, 1 << 62, 1<<62 + 1, math.MaxInt64 - 5000, math.MaxInt64 - 511, math.MaxInt64 - 1, math.MaxInt64, math.MinInt64, math.MinInt64 + 1, math.MinInt64 + 5000}
}

// plain is a map as a row of granules, each of which is dirty or is not.
type plain struct {
	size  int64
	gran  int
	dirty []bool
}

func newPlain(size int64, gran int) *plain {
	p := &plain{size: size, gran: gran}
	for at := int64(0); at < size; at += p.wide() {
		p.dirty = append(p.dirty, false)
	}
	return p
}

// wide is how many bytes a granule has.
func (p *plain) wide() int64 {
	n := int64(1)
	for range p.gran {
		n *= 2
	}
	return n
}

// first is a granule's first byte.
func (p *plain) first(g int) int64 { return int64(g) * p.wide() }

// last is its last byte below the size.
func (p *plain) last(g int) int64 { return min(p.first(g)+p.wide(), p.size) - 1 }

// another is a row that goes on apart.
func (p *plain) another() *plain { return &plain{p.size, p.gran, slices.Clone(p.dirty)} }

// asked tells whether n bytes may be asked about.
func (p *plain) asked(at, n int64) api.Errno {
	if at < 0 || n < 0 {
		return api.ErrArg
	}
	if at > p.size || n > p.size || at+n > p.size {
		return api.ErrRange
	}
	return api.OK
}

// turn makes granules dirty, or not, and counts those that were otherwise.
func (p *plain) turn(on bool, those func(g int) bool) int {
	many := 0
	for g := range p.dirty {
		if those(g) && p.dirty[g] != on {
			p.dirty[g] = on
			many++
		}
	}
	return many
}

func (p *plain) set(at, n int64) (int, api.Errno) {
	if no := p.asked(at, n); no != api.OK {
		return 0, no
	}
	// A granule and bytes share one, if the later one's first byte is one of the other's.
	return p.turn(true, func(g int) bool { return n > 0 && max(at, p.first(g)) <= min(at+n-1, p.last(g)) }), api.OK
}

func (p *plain) reset(at, n int64) (int, api.Errno) {
	if no := p.asked(at, n); no != api.OK {
		return 0, no
	}
	return p.turn(false, func(g int) bool { return at <= p.first(g) && p.last(g) < at+n }), api.OK
}

func (p *plain) has(at int64) (bool, api.Errno) {
	if at < 0 || at >= p.size {
		return false, api.ErrRange
	}
	return p.dirty[at/p.wide()], api.OK
}

func (p *plain) next(from int64, dirty bool) (int64, bool) {
	for g := range p.dirty {
		if int64(g) >= from && p.dirty[g] == dirty {
			return int64(g), true
		}
	}
	return 0, false
}

func (p *plain) all() []int64 {
	var l []int64
	for g, dirty := range p.dirty {
		if dirty {
			l = append(l, int64(g))
		}
	}
	return l
}

// runs grows a run by one granule after the other.
func (p *plain) runs() []stretch {
	var l []stretch
	for g, dirty := range p.dirty {
		n := p.last(g) + 1 - p.first(g)
		switch {
		case !dirty:
		case g > 0 && p.dirty[g-1]:
			l[len(l)-1].n += n
		default:
			l = append(l, stretch{p.first(g), n})
		}
	}
	return l
}

func (p *plain) bytes() []byte {
	b := make([]byte, (len(p.dirty)+7)/8)
	for g, dirty := range p.dirty {
		if dirty {
			b[g/8] += 1 << (g % 8)
		}
	}
	return b
}

func (p *plain) merge(l ...*plain) {
	for _, o := range l {
		p.turn(true, func(g int) bool { return o.dirty[g] })
	}
}

func (p *plain) minus(o *plain) {
	p.turn(false, func(g int) bool { return o.dirty[g] })
}

func (p *plain) resize(size int64) {
	next := newPlain(size, p.gran)
	for g := range min(len(next.dirty), len(p.dirty)) {
		next.dirty[g] = p.dirty[g]
	}
	*p = *next
}

// to asks each granule of the other row about each dirty run.
func (p *plain) to(gran int) *plain {
	o := newPlain(p.size, gran)
	for _, x := range p.runs() {
		o.turn(true, func(g int) bool { return max(o.first(g), x.at) <= min(o.last(g), x.at+x.n-1) })
	}
	return o
}

// count is how many granules there are, and how many are dirty.
func (p *plain) count() (int, int) { return len(p.dirty), len(p.all()) }

// edges are the places of all granules' first and last bytes, and some beside them.
func (p *plain) edges() []int64 {
	l := []int64{-1, 0, p.size - 1, p.size, p.size + 1}
	for g := range p.dirty {
		l = append(l, p.first(g)-1, p.first(g), p.first(g)+1, p.last(g)-1, p.last(g), p.last(g)+1)
	}
	return l
}

// filled is a map with the same dirty granules, each set alone, the last one first.
func (p *plain) filled(t *testing.T) *Map {
	t.Helper()
	m := made(t, p.size, p.gran)
	for g := range p.dirty {
		g = len(p.dirty) - 1 - g
		if !p.dirty[g] {
			continue
		}
		if n, no := m.Set(p.last(g), 1); n != 1 || no != api.OK {
			t.Fatalf("Set(%d, 1): %d %v", p.last(g), n, no)
		}
	}
	return m
}

// is holds a map's size, Gran and granules against the row.
func (p *plain) is(t *testing.T, m *Map) {
	t.Helper()
	if m == nil {
		t.Fatalf("no map, want %d %d %v", p.size, p.gran, p.all())
	}
	if size, gran := m.Size(); size != p.size || gran != p.gran {
		t.Fatalf("Size %d %d, want %d %d", size, gran, p.size, p.gran)
	}
	many, dirty := m.Count()
	if wantMany, wantDirty := p.count(); many != wantMany || dirty != wantDirty {
		t.Fatalf("%d %d %v: Count %d %d, want %d %d", p.size, p.gran, p.all(), many, dirty, wantMany, wantDirty)
	}
	if b := m.Bytes(); !bytes.Equal(b, p.bytes()) {
		t.Fatalf("%d %d: Bytes %v, want %v", p.size, p.gran, b, p.bytes())
	}
}

// tells holds all that a map tells against the row.
func (p *plain) tells(t *testing.T, m *Map) {
	t.Helper()
	p.is(t, m)
	if l := listed(m.All()); !slices.Equal(l, p.all()) {
		t.Fatalf("%d %d: All %v, want %v", p.size, p.gran, l, p.all())
	}
	if l := stretched(m.Runs()); !slices.Equal(l, p.runs()) {
		t.Fatalf("%d %d: Runs %v, want %v", p.size, p.gran, l, p.runs())
	}
	for from := -2; from < len(p.dirty)+3; from++ {
		p.heldNext(t, m, int64(from))
	}
	for _, x := range odd() {
		p.heldNext(t, m, x)
		p.heldHas(t, m, x)
	}
	for _, at := range p.edges() {
		p.heldHas(t, m, at)
	}
	again, no := Open(p.size, p.gran, p.bytes())
	if again == nil || no != api.OK || !again.Same(m) || !m.Same(again) {
		t.Fatalf("%d %d: Open(%v): %v %v", p.size, p.gran, p.bytes(), again, no)
	}
	p.is(t, again)
}

// heldNext holds Next against the row, of dirty ones and of others.
func (p *plain) heldNext(t *testing.T, m *Map, from int64) {
	t.Helper()
	for _, dirty := range []bool{false, true} {
		want, there := p.next(from, dirty)
		if g, ok := m.Next(from, dirty); g != want || ok != there {
			t.Fatalf("%d %d %v: Next(%d, %v) %d %v, want %d %v", p.size, p.gran, p.all(), from, dirty, g, ok, want, there)
		}
	}
}

// heldHas holds Has against the row.
func (p *plain) heldHas(t *testing.T, m *Map, at int64) {
	t.Helper()
	want, wantNo := p.has(at)
	if ok, no := m.Has(at); ok != want || no != wantNo {
		t.Fatalf("%d %d %v: Has(%d) %v %v, want %v %v", p.size, p.gran, p.all(), at, ok, no, want, wantNo)
	}
}

// heldSet holds Set against the row.
func (p *plain) heldSet(t *testing.T, m *Map, at, n int64) {
	t.Helper()
	was := p.all()
	want, wantNo := p.set(at, n)
	if many, no := m.Set(at, n); many != want || no != wantNo {
		t.Fatalf("%d %d %v: Set(%d, %d) %d %v, want %d %v", p.size, p.gran, was, at, n, many, no, want, wantNo)
	}
	p.is(t, m)
}

// heldReset holds Reset against the row.
func (p *plain) heldReset(t *testing.T, m *Map, at, n int64) {
	t.Helper()
	was := p.all()
	want, wantNo := p.reset(at, n)
	if many, no := m.Reset(at, n); many != want || no != wantNo {
		t.Fatalf("%d %d %v: Reset(%d, %d) %d %v, want %d %v", p.size, p.gran, was, at, n, many, no, want, wantNo)
	}
	p.is(t, m)
}

// heldResize holds Resize against the row, of a size that may be.
func (p *plain) heldResize(t *testing.T, m *Map, size int64) {
	t.Helper()
	was := p.another()
	p.resize(size)
	if no := m.Resize(size); no != api.OK {
		t.Fatalf("%d %d %v: Resize(%d) %v", was.size, p.gran, was.all(), size, no)
	}
	p.is(t, m)
}

// heldTo holds To against the row, of a Gran that may be; the map stays.
func (p *plain) heldTo(t *testing.T, m *Map, gran int) (*plain, *Map) {
	t.Helper()
	o, no := m.To(gran)
	if o == nil || o == m || no != api.OK {
		t.Fatalf("%d %d %v: To(%d) %v %v", p.size, p.gran, p.all(), gran, o, no)
	}
	want := p.to(gran)
	want.is(t, o)
	p.is(t, m)
	return want, o
}
