package regions

import (
	"iter"
	"math"
	"math/big"
	"slices"
	"testing"

	"palimpsest/api"
)

// top is the bound of places, as the chapter says it.
const top = int64(72057594037927936)

func region(kind int, at, n int64) api.Region { return api.Region{Kind: kind, At: at, Len: n} }

// gap is a run of bytes in no region.
type gap struct{ at, n int64 }

// gathered is all that All tells.
func gathered(all iter.Seq[api.Region]) []api.Region {
	var l []api.Region
	for one := range all {
		l = append(l, one)
	}
	return l
}

// gapped is all that Gaps tells.
func gapped(gaps iter.Seq2[int64, int64]) []gap {
	var l []gap
	for at, n := range gaps {
		l = append(l, gap{at, n})
	}
	return l
}

// made is one with regions, which must all go in.
func made(t *testing.T, l ...api.Region) *Regions {
	t.Helper()
	r := New()
	if n, no := r.Put(l...); n != len(l) || no != api.OK {
		t.Fatalf("Put(%v): %d %v", l, n, no)
	}
	return r
}

// has holds what is there against the regions that should be, in order.
func has(t *testing.T, r *Regions, want ...api.Region) {
	t.Helper()
	if l := gathered(r.All()); !slices.Equal(l, want) {
		t.Fatalf("there are %v, want %v", l, want)
	}
}

// sum is two numbers together, which never wraps round.
func sum(a, b int64) *big.Int { return new(big.Int).Add(big.NewInt(a), big.NewInt(b)) }

// wide tells whether two numbers together are above the bound of places.
func wide(a, b int64) bool { return sum(a, b).Cmp(big.NewInt(top)) > 0 }

// allowed tells whether a region may be, as the chapter's section 'Words' has it.
func allowed(one api.Region) bool {
	return one.Kind > 0 && one.Kind < 17 && one.At >= 0 && one.Len > 0 && !wide(one.At, one.Len)
}

// odd are numbers at which sums, products and rounding may go wrong.
func odd() []int64 {
	return []int64{0, 1, -1, 2, -2, 511, 512, 513, top - 513, top - 512, top - 2, top - 1, top, top + 1, top + 2, 2 * top, -top, 1 << 62, 1<<62 + 1, math.MaxInt64 - top, math.MaxInt64 - top + 1, math.MaxInt64 - 1, math.MaxInt64, math.MinInt64, math.MinInt64 + 1, math.MinInt64 + top}
}

// plain is regions as a row of bytes, each of which says in which region it lies (a zero one: in none). The row begins at a place; all bytes ahead of it and behind it lie in none.
type plain struct {
	from  int64
	bytes []api.Region
}

func newPlain(from int64, n int) *plain { return &plain{from, make([]api.Region, n)} }

// at is the region in which a byte lies.
func (p *plain) at(place int64) api.Region {
	if place < p.from || place >= p.from+int64(len(p.bytes)) {
		return api.Region{}
	}
	return p.bytes[place-p.from]
}

// fill writes into all bytes of a region.
func (p *plain) fill(one, with api.Region) {
	for i := range one.Len {
		p.bytes[one.At-p.from+i] = with
	}
}

// hits tells whether a byte of a region lies in another one.
func (p *plain) hits(one api.Region) bool {
	for i, of := range p.bytes {
		place := p.from + int64(i)
		if of != (api.Region{}) && place >= one.At && place-one.At < one.Len {
			return true
		}
	}
	return false
}

func (p *plain) put(l ...api.Region) (int, api.Errno) {
	for _, one := range l {
		if !allowed(one) {
			return 0, api.ErrArg
		}
	}
	for n, one := range l {
		if p.hits(one) {
			return n, api.ErrLies
		}
		p.fill(one, one)
	}
	return len(l), api.OK
}

func (p *plain) take(at int64) (api.Region, api.Errno) {
	one := p.at(at)
	if one.Kind == 0 || one.At != at {
		return api.Region{}, api.ErrNone
	}
	p.fill(one, api.Region{})
	return one, api.OK
}

func (p *plain) move(at, to int64) api.Errno {
	one, no := p.take(at)
	if no != api.OK {
		return no
	}
	_, no = p.put(region(one.Kind, to, one.Len))
	if no != api.OK {
		p.fill(one, one)
	}
	return no
}

func (p *plain) ask(at, n int64, but ...int) (api.Region, bool, api.Errno) {
	if at < 0 || n < 0 || wide(at, n) || slices.ContainsFunc(but, func(k int) bool { return k < 1 || k > 16 }) {
		return api.Region{}, false, api.ErrArg
	}
	for i, one := range p.bytes {
		place := p.from + int64(i)
		if one.Kind > 0 && !slices.Contains(but, one.Kind) && place >= at && place < at+n {
			return one, true, api.OK
		}
	}
	return api.Region{}, false, api.OK
}

// fits tells whether n bytes from a place on lie in no region, and not beyond the bound.
func (p *plain) fits(at, n int64) bool { return !wide(at, n) && !p.hits(region(1, at, n)) }

// first tries the least multiple, then all places of the row, then the least multiple behind it: between the first of these and the row nothing is in the way that is not in its way too.
func (p *plain) first(from, n, step int64) (int64, api.Errno) {
	if from < 0 || from > top || n < 1 || step < 1 {
		return 0, api.ErrArg
	}
	behind := max(from, p.from+int64(len(p.bytes)))
	tries := []int64{stepped(from, step)}
	for place := max(from, p.from); place < behind; place++ {
		if place%step == 0 {
			tries = append(tries, place)
		}
	}
	for _, at := range append(tries, stepped(behind, step)) {
		if p.fits(at, n) {
			return at, api.OK
		}
	}
	return 0, api.ErrRange
}

// stepped is the least multiple of a step from a place on, 2^63 - 1 if it is above that.
func stepped(from, step int64) int64 {
	times := new(big.Int).Div(sum(from, step-1), big.NewInt(step))
	at := times.Mul(times, big.NewInt(step))
	if !at.IsInt64() {
		return math.MaxInt64
	}
	return at.Int64()
}

func (p *plain) all() []api.Region {
	var l []api.Region
	for i, one := range p.bytes {
		if one.Kind > 0 && one.At == p.from+int64(i) {
			l = append(l, one)
		}
	}
	return l
}

func (p *plain) count(kind int) (int, int64) {
	many, bytes := 0, int64(0)
	for _, one := range p.all() {
		if one.Kind == kind {
			many++
		}
	}
	for _, one := range p.bytes {
		if kind > 0 && one.Kind == kind {
			bytes++
		}
	}
	return many, bytes
}

func (p *plain) end() int64 {
	end := int64(0)
	for i, one := range p.bytes {
		if one.Kind > 0 {
			end = p.from + int64(i) + 1
		}
	}
	return end
}

// gaps grows a gap byte by byte over the row; what is ahead of the row and behind it is a byte that counts for many.
func (p *plain) gaps(until int64) []gap {
	until = min(until, top)
	var l []gap
	grow := func(at, n int64) {
		if at >= until || n < 1 {
			return
		}
		n = min(n, until-at)
		switch last := len(l) - 1; {
		case last >= 0 && l[last].at+l[last].n == at:
			l[last].n += n
		default:
			l = append(l, gap{at, n})
		}
	}
	grow(0, p.from)
	for i, one := range p.bytes {
		if one.Kind == 0 {
			grow(p.from+int64(i), 1)
		}
	}
	behind := p.from + int64(len(p.bytes))
	grow(behind, top-behind)
	return l
}

// tells holds all that can be asked without arguments of many kinds against the row.
func (p *plain) tells(t *testing.T, r *Regions) {
	t.Helper()
	has(t, r, p.all()...)
	if r.End() != p.end() {
		t.Fatalf("%v: End %d, want %d", p.all(), r.End(), p.end())
	}
	for kind := -1; kind < 19; kind++ {
		many, bytes := r.Count(kind)
		if wantMany, wantBytes := p.count(kind); many != wantMany || bytes != wantBytes {
			t.Fatalf("%v: Count(%d) %d %d, want %d %d", p.all(), kind, many, bytes, wantMany, wantBytes)
		}
	}
	for i := range len(p.bytes) + 4 {
		p.tellsAt(t, r, p.from+int64(i)-2)
	}
	for _, place := range odd() {
		p.tellsAt(t, r, place)
	}
}

// tellsAt holds what a place alone asks against the row.
func (p *plain) tellsAt(t *testing.T, r *Regions, place int64) {
	t.Helper()
	want := p.at(place)
	if one, ok := r.Of(place); one != want || ok != (want.Kind > 0) {
		t.Fatalf("%v: Of(%d) %v %v, want %v", p.all(), place, one, ok, want)
	}
	if l := gapped(r.Gaps(place)); !slices.Equal(l, p.gaps(place)) {
		t.Fatalf("%v: Gaps(%d) %v, want %v", p.all(), place, l, p.gaps(place))
	}
}

// heldAsk holds Ask against the row.
func (p *plain) heldAsk(t *testing.T, r *Regions, at, n int64, but ...int) {
	t.Helper()
	want, there, wantNo := p.ask(at, n, but...)
	if one, ok, no := r.Ask(at, n, but...); one != want || ok != there || no != wantNo {
		t.Fatalf("%v: Ask(%d, %d, %v) %v %v %v, want %v %v %v", p.all(), at, n, but, one, ok, no, want, there, wantNo)
	}
}

// heldFirst holds First against the row.
func (p *plain) heldFirst(t *testing.T, r *Regions, from, n, step int64) {
	t.Helper()
	want, wantNo := p.first(from, n, step)
	if at, no := r.First(from, n, step); at != want || no != wantNo {
		t.Fatalf("%v: First(%d, %d, %d) %d %v, want %d %v", p.all(), from, n, step, at, no, want, wantNo)
	}
}

// heldPut holds Put against the row.
func (p *plain) heldPut(t *testing.T, r *Regions, l ...api.Region) {
	t.Helper()
	was := p.all()
	want, wantNo := p.put(l...)
	if n, no := r.Put(l...); n != want || no != wantNo {
		t.Fatalf("%v: Put(%v) %d %v, want %d %v", was, l, n, no, want, wantNo)
	}
}

// heldTake holds Take against the row.
func (p *plain) heldTake(t *testing.T, r *Regions, at int64) {
	t.Helper()
	was := p.all()
	want, wantNo := p.take(at)
	if one, no := r.Take(at); one != want || no != wantNo {
		t.Fatalf("%v: Take(%d) %v %v, want %v %v", was, at, one, no, want, wantNo)
	}
}

// heldMove holds Move against the row.
func (p *plain) heldMove(t *testing.T, r *Regions, at, to int64) {
	t.Helper()
	was := p.all()
	want := p.move(at, to)
	if no := r.Move(at, to); no != want {
		t.Fatalf("%v: Move(%d, %d) %v, want %v", was, at, to, no, want)
	}
}

// another is a row that goes on apart.
func (p *plain) another() *plain { return &plain{p.from, slices.Clone(p.bytes)} }
