package later

import (
	"iter"
	"math"
	"math/big"
	"slices"
	"testing"

	"palimpsest/api"
)

// top is the bound of places, most the bound of runs, as the chapters say them.
const (
	top  = int64(72057594037927936)
	most = 4096
)

func run(at, n int64) api.Run { return api.Run{At: at, Len: n} }

// gathered is all that an iterator tells.
func gathered(all iter.Seq[api.Run]) []api.Run {
	var l []api.Run
	for x := range all {
		l = append(l, x)
	}
	return l
}

// made is one with runs, which must all go in.
func made(t *testing.T, l ...api.Run) *Later {
	t.Helper()
	q, no := New(l...)
	if q == nil || no != api.OK {
		t.Fatalf("New(%v): %v %v", l, q, no)
	}
	return q
}

// has holds what waits against the runs that should be, in order.
func has(t *testing.T, q *Later, want ...api.Run) {
	t.Helper()
	if l := gathered(q.All()); !slices.Equal(l, want) {
		t.Fatalf("there wait %v, want %v", l, want)
	}
	bytes := int64(0)
	for _, x := range want {
		bytes += x.Len
	}
	if n, b := q.Size(); n != len(want) || b != bytes {
		t.Fatalf("Size %d %d, want %d %d", n, b, len(want), bytes)
	}
}

// allowed tells whether a run may be, as the chapter's section 'Words' has it; its sum never wraps round.
func allowed(x api.Run) bool {
	sum := new(big.Int).Add(big.NewInt(x.At), big.NewInt(x.Len))
	return x.At >= 0 && x.Len > 0 && sum.Cmp(big.NewInt(top)) <= 0
}

// odd are numbers at which sums and bounds may go wrong.
func odd() []int64 {
	return []int64{0, 1, -1, 2, -2, 511, 512, 513, top - 513, top - 512, top - 2, top - 1, top, top + 1, top + 2, 2 * top, -top, 1 << 62, 1<<62 + 1, math.MaxInt64 - top, math.MaxInt64 - top + 1, math.MaxInt64 - 1, math.MaxInt64, math.MinInt64, math.MinInt64 + 1, math.MinInt64 + top}
}

// apart are n runs of one byte each, with one byte between them.
func apart(n int) []api.Run {
	var l []api.Run
	for i := range n {
		l = append(l, run(int64(2*i), 1))
	}
	return l
}

// plain is what waits as a row of bytes, each of which waits or does not. The row begins at a place; no byte ahead of it or behind it waits.
type plain struct {
	from  int64
	bytes []bool
}

func newPlain(from int64, n int) *plain { return &plain{from, make([]bool, n)} }

// another is a row that goes on apart.
func (p *plain) another() *plain { return &plain{p.from, slices.Clone(p.bytes)} }

// in tells whether byte i of the row is one of a run.
func (p *plain) in(i int, x api.Run) bool {
	place := p.from + int64(i)
	return place >= x.At && place-x.At < x.Len
}

// all grows runs byte by byte.
func (p *plain) all() []api.Run {
	var l []api.Run
	for i, waits := range p.bytes {
		switch {
		case !waits:
		case i > 0 && p.bytes[i-1]:
			l[len(l)-1].Len++
		default:
			l = append(l, run(p.from+int64(i), 1))
		}
	}
	return l
}

// size counts bytes, and those of them that have none ahead of them.
func (p *plain) size() (int, int64) {
	runs, bytes := 0, int64(0)
	for i, waits := range p.bytes {
		if waits {
			bytes++
		}
		if waits && (i == 0 || !p.bytes[i-1]) {
			runs++
		}
	}
	return runs, bytes
}

// over counts the bytes of a run that wait.
func (p *plain) over(x api.Run) (int64, api.Errno) {
	if !allowed(x) {
		return 0, api.ErrArg
	}
	many := int64(0)
	for i, waits := range p.bytes {
		if waits && p.in(i, x) {
			many++
		}
	}
	return many, api.OK
}

// set lets the bytes of runs wait, or not wait, and counts those that did otherwise.
func (p *plain) set(waits bool, l ...api.Run) (int64, api.Errno) {
	next, many := p.another(), int64(0)
	for _, x := range l {
		if !allowed(x) {
			return 0, api.ErrArg
		}
		for i, was := range next.bytes {
			if was != waits && next.in(i, x) {
				next.bytes[i] = waits
				many++
			}
		}
	}
	if runs, _ := next.size(); runs > most {
		return 0, api.ErrFull
	}
	p.bytes = next.bytes
	return many, api.OK
}

func (p *plain) next(n int64) (api.Run, api.Errno) {
	l := p.all()
	switch {
	case n < 1:
		return api.Run{}, api.ErrArg
	case len(l) == 0:
		return api.Run{}, api.ErrNone
	}
	told := l[0]
	if told.Len > n {
		told.Len = n
	}
	p.set(false, told)
	return told, api.OK
}

func (p *plain) greatest() (api.Run, api.Errno) {
	told := api.Run{}
	for _, x := range p.all() {
		if x.Len > told.Len {
			told = x
		}
	}
	if told.Len == 0 {
		return told, api.ErrNone
	}
	p.set(false, told)
	return told, api.OK
}

// tells holds all that can be asked without changing anything against the row, and that between two runs there is a byte that does not wait.
func (p *plain) tells(t *testing.T, q *Later) {
	t.Helper()
	want := p.all()
	l := gathered(q.All())
	if !slices.Equal(l, want) {
		t.Fatalf("there wait %v, want %v", l, want)
	}
	for i := 1; i < len(l); i++ {
		if l[i-1].At+l[i-1].Len >= l[i].At {
			t.Fatalf("two that meet: %v", l)
		}
	}
	n, b := q.Size()
	if wantN, wantB := p.size(); n != wantN || b != wantB {
		t.Fatalf("%v: Size %d %d, want %d %d", want, n, b, wantN, wantB)
	}
}

// heldOver holds Over against the row.
func (p *plain) heldOver(t *testing.T, q *Later, x api.Run) {
	t.Helper()
	want, wantNo := p.over(x)
	if n, no := q.Over(x); n != want || no != wantNo {
		t.Fatalf("%v: Over(%v) %d %v, want %d %v", p.all(), x, n, no, want, wantNo)
	}
}

// heldPut holds Put against the row, and tells its error.
func (p *plain) heldPut(t *testing.T, q *Later, l ...api.Run) api.Errno {
	t.Helper()
	was := p.all()
	want, wantNo := p.set(true, l...)
	if n, no := q.Put(l...); n != want || no != wantNo {
		t.Fatalf("%v: Put(%v) %d %v, want %d %v", was, l, n, no, want, wantNo)
	}
	return wantNo
}

// heldCut holds Cut against the row, and tells its error.
func (p *plain) heldCut(t *testing.T, q *Later, x api.Run) api.Errno {
	t.Helper()
	was := p.all()
	want, wantNo := p.set(false, x)
	if n, no := q.Cut(x); n != want || no != wantNo {
		t.Fatalf("%v: Cut(%v) %d %v, want %d %v", was, x, n, no, want, wantNo)
	}
	return wantNo
}

// heldNext holds Next against the row.
func (p *plain) heldNext(t *testing.T, q *Later, n int64) {
	t.Helper()
	was := p.all()
	want, wantNo := p.next(n)
	if x, no := q.Next(n); x != want || no != wantNo {
		t.Fatalf("%v: Next(%d) %v %v, want %v %v", was, n, x, no, want, wantNo)
	}
}

// heldGreatest holds Greatest against the row.
func (p *plain) heldGreatest(t *testing.T, q *Later) {
	t.Helper()
	was := p.all()
	want, wantNo := p.greatest()
	if x, no := q.Greatest(); x != want || no != wantNo {
		t.Fatalf("%v: Greatest %v %v, want %v %v", was, x, no, want, wantNo)
	}
}
