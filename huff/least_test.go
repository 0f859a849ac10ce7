package huff

import (
	"cmp"
	"math"
	"math/big"
	"math/rand"
	"slices"
	"testing"

	"palimpsest/api"
)

const top = math.MaxUint32

// times is a list of n equal counts.
func times(n int, count uint32) []uint32 {
	l := make([]uint32, n)
	for i := range l {
		l[i] = count
	}
	return l
}

// costOf is what lengths cost, told on the spot.
func costOf(lengths []int, counts []uint32) uint64 {
	sum := uint64(0)
	for i, n := range lengths {
		sum += uint64(n) * uint64(counts[i])
	}
	return sum
}

// come are the counts above 0, the greatest first.
func come(counts []uint32) []uint64 {
	var l []uint64
	for _, c := range counts {
		if c > 0 {
			l = append(l, uint64(c))
		}
	}
	slices.SortFunc(l, func(a, b uint64) int { return cmp.Compare(b, a) })
	return l
}

// leastByLevels is the least cost of lengths of at most most bits: at each depth of a tree the greatest count that is left ends there, or none does any more, and each open end has two of the next depth. (Another way than the program's.)
func leastByLevels(most int, counts []uint32) uint64 {
	l := come(counts)
	n := len(l)
	const never = math.MaxUint64
	below := make([][]uint64, n+1) // the least cost of l[i:] with so many open ends, one level down
	for i := range below {
		below[i] = make([]uint64, n+1)
		for ends := range below[i] {
			if i < n {
				below[i][ends] = never
			}
		}
	}
	for depth := most; depth >= 0; depth-- {
		here := make([][]uint64, n+1)
		for i := n; i >= 0; i-- {
			here[i] = make([]uint64, n+1)
			for ends := range here[i] {
				best := below[i][min(2*ends, n)]
				if i < n && ends > 0 && here[i+1][ends-1] != never {
					best = min(best, l[i]*uint64(depth)+here[i+1][ends-1])
				}
				here[i][ends] = best
			}
		}
		below = here
	}
	if n == 1 {
		return l[0] // no code has 0 bits
	}
	return below[0][min(1, n)]
}

// leastByPairs is the least cost of lengths of any number of bits: the two least numbers, over and over, as their sum.
func leastByPairs(counts []uint32) uint64 {
	l := come(counts)
	if len(l) == 1 {
		return l[0]
	}
	sum := uint64(0)
	for len(l) > 1 {
		slices.SortFunc(l, func(a, b uint64) int { return cmp.Compare(b, a) })
		last := l[len(l)-1] + l[len(l)-2]
		l = append(l[:len(l)-2], last)
		sum += last
	}
	return sum
}

// leastOfAll is the least cost of all lengths from 1 to most that are not over, one by one.
func leastOfAll(most int, counts []uint32) uint64 {
	best := uint64(math.MaxUint64)
	lengths := make([]int, len(counts))
	var try func(i int, left uint64)
	try = func(i int, left uint64) {
		if i == len(counts) {
			best = min(best, costOf(lengths, counts))
			return
		}
		if counts[i] == 0 {
			try(i+1, left)
			return
		}
		for n := 1; n <= most; n++ {
			if part := uint64(1) << (most - n); part <= left {
				lengths[i] = n
				try(i+1, left-part)
			}
		}
		lengths[i] = 0
	}
	try(0, 1<<most)
	return best
}

// mayBe asks of lengths all but that they cost least: as many as counts, 0 just where the count is, at most most bits, whole (or 1 of one alone), shorter or as long where the count is greater.
func mayBe(t *testing.T, what string, most int, lengths []int, counts []uint32) {
	t.Helper()
	if len(lengths) != len(counts) {
		t.Fatalf("%s %v: %d lengths", what, counts, len(lengths))
	}
	some := 0
	for i, n := range lengths {
		if (n == 0) != (counts[i] == 0) || n < 0 || n > most {
			t.Errorf("%s %v: %v: symbol %d", what, counts, lengths, i)
		}
		if n > 0 {
			some++
		}
		for k, m := range lengths {
			if n > 0 && m > 0 && counts[i] > counts[k] && n > m {
				t.Errorf("%s %v: %v: symbol %d comes more often than %d, and is longer", what, counts, lengths, i, k)
			}
		}
	}
	want := big.NewRat(int64(min(some, 1)), 1)
	if some == 1 {
		want = big.NewRat(1, 2)
	}
	if fractions(lengths).Cmp(want) != 0 {
		t.Errorf("%s %v: %v: the sum is %v, not %v", what, counts, lengths, fractions(lengths), want)
	}
}

// manyCounts are lists of counts: none, one, two, 0 among them, all the same, rising by doubles, as in Fibonacci's row, the greatest there are.
func manyCounts() [][]uint32 {
	l := [][]uint32{
		nil, {}, {0}, {1}, {top}, {0, 7}, {7, 0}, {0, 0, 0, 5, 0}, {1, 1}, {1, top}, {0, 3, 0, 4, 0}, {top, top, top},
		{5, 9, 1, 1}, {1, 1, 2, 4, 8}, {8, 4, 2, 1, 1}, {1, 2, 3}, {1, 1, 1, 1, 1, 1, 1}, {2, 2, 2, 2, 1, 1, 1, 1},
	}
	for _, n := range []int{2, 3, 4, 5, 7, 8, 9, 15, 16, 17, 31, 32, 33, 64, 100, 127, 128, 129, 255, 256, 257, 286, 288, 319, 320} {
		l = append(l, times(n, 1), times(n, top), times(n, 0))
		rising, square, half := times(n, 0), times(n, 0), times(n, 0)
		for i := range rising {
			rising[i] = uint32(i)
			square[i] = uint32(i * i * i)
			if i%2 == 0 {
				half[i] = uint32(1 + i%7)
			}
		}
		l = append(l, rising, square, half)
	}
	doubles, fib := []uint32{1}, []uint32{1, 1}
	for i := 0; i < 32; i++ {
		doubles = append(doubles, 1<<i)
		l = append(l, slices.Clone(doubles))
	}
	for len(fib) < 47 {
		fib = append(fib, fib[len(fib)-1]+fib[len(fib)-2])
		back := slices.Clone(fib)
		slices.Reverse(back)
		l = append(l, slices.Clone(fib), append(back, 0, 0))
	}
	r := rand.New(rand.NewSource(3))
	for i := 0; i < 120; i++ {
		c := make([]uint32, 1+r.Intn(40+i%2*280))
		for k := range c {
			if r.Intn(5) > 0 {
				c[k] = r.Uint32() >> r.Intn(32)
			}
		}
		l = append(l, c)
	}
	return l
}

// P3.2, P3.4: Lengths may be, and no others cost less, of any bound; what Plain tells in so many bits costs the same.
func TestLengths(t *testing.T) {
	for _, counts := range manyCounts() {
		plain, _ := Plain(counts...)
		free := costOf(plain, counts)
		for most := 1; most <= 15; most++ {
			l, e := Lengths(most, counts...)
			if len(come(counts)) > 1<<most {
				if l != nil || e != api.ErrOver {
					t.Errorf("%d bits of %v: %v %v, not ErrOver", most, counts, l, e)
				}
				continue
			}
			if e != api.OK {
				t.Errorf("%d bits of %v: %v", most, counts, e)
				continue
			}
			mayBe(t, "lengths", most, l, counts)
			cost := costOf(l, counts)
			if want := leastByLevels(most, counts); cost != want {
				t.Errorf("%d bits of %v: %v costs %d, not %d", most, counts, l, cost, want)
			}
			if cost < free || within(plain, most) && cost != free {
				t.Errorf("%d bits of %v: %v costs %d, plain ones %d", most, counts, l, cost, free)
			}
		}
	}
}

// P3.2: Plain's lengths may be, and no others cost less; some have more than 15 bits.
func TestPlain(t *testing.T) {
	deep := 0
	for _, counts := range manyCounts() {
		l, e := Plain(counts...)
		if e != api.OK {
			t.Errorf("%v: %v", counts, e)
		}
		mayBe(t, "plain", 320, l, counts)
		if cost, want := costOf(l, counts), leastByPairs(counts); cost != want {
			t.Errorf("%v: %v costs %d, not %d", counts, l, cost, want)
		}
		for _, n := range l {
			deep = max(deep, n)
		}
	}
	if deep <= 40 {
		t.Errorf("the longest one has %d bits: Fibonacci's row asks for more", deep)
	}
	if l, e := Plain(1, 1, 2, 4, 8); !slices.Equal(l, []int{4, 4, 3, 2, 1}) || e != api.OK {
		t.Error(l, e)
	}
	doubles := []uint32{1}
	for i := 0; i < 17; i++ {
		doubles = append(doubles, 1<<i)
	}
	l, e := Plain(doubles...)
	if want := []int{17, 17, 16, 15, 14, 13, 12, 11, 10, 9, 8, 7, 6, 5, 4, 3, 2, 1}; !slices.Equal(l, want) || e != api.OK {
		t.Error(l, e)
	}
}

// fewCounts are all lists of at most n counts out of these.
func fewCounts(n int, of ...uint32) [][]uint32 {
	l := [][]uint32{{}}
	for from := 0; n > 0; n-- {
		for to := len(l); from < to; from++ {
			for _, c := range of {
				l = append(l, append(slices.Clone(l[from]), c))
			}
		}
	}
	return l
}

// P3.2: of few symbols, none of all lengths that may be cost less.
func TestAgainstAllLengths(t *testing.T) {
	for _, counts := range append(fewCounts(5, 0, 1, 2, 5, 13), fewCounts(4, 0, 1, 3, 4, 1000, top-1, top)...) {
		for most := 1; most <= 5; most++ {
			l, e := Lengths(most, counts...)
			if e == api.ErrOver && len(come(counts)) > 1<<most {
				continue
			}
			if e != api.OK {
				t.Fatalf("%d bits of %v: %v", most, counts, e)
			}
			mayBe(t, "lengths", most, l, counts)
			if cost, want := costOf(l, counts), leastOfAll(most, counts); cost != want {
				t.Errorf("%d bits of %v: %v costs %d, not %d", most, counts, l, cost, want)
			}
		}
		l, _ := Plain(counts...)
		mayBe(t, "plain", 5, l, counts)
		if cost, want := costOf(l, counts), leastOfAll(6, counts); cost != want {
			t.Errorf("plain of %v: %v costs %d, not %d", counts, l, cost, want)
		}
	}
}

// P3.2: more symbols, with steep counts, against all lengths of 3 and 4 bits.
func TestAgainstAllLengthsOfSeven(t *testing.T) {
	for _, counts := range [][]uint32{{1, 1, 2, 3, 5, 8, 13}, {1, 2, 4, 8, 16, 32, 64}, {64, 1, 32, 2, 16, 4, 8}, {1, 1, 1, 1, 1, 1, top}, {3, 3, 3, 2, 2, 2, 1}, {1, 1, 1, 1, 1, 1, 1, 50}} {
		for most := 3; most <= 4; most++ {
			l, e := Lengths(most, counts...)
			if e != api.OK {
				t.Fatal(counts, e)
			}
			mayBe(t, "lengths", most, l, counts)
			if cost, want := costOf(l, counts), leastOfAll(most, counts); cost != want {
				t.Errorf("%d bits of %v: %v costs %d, not %d", most, counts, l, cost, want)
			}
		}
	}
}

// P3.2: just 2^most counts above 0 have all most bits; one more is refused, others that are 0 or not.
func TestAsManyAsThereAre(t *testing.T) {
	for most := 1; most <= 8; most++ {
		counts := times(320, 0)
		for i := 0; i < 1<<most; i++ {
			counts[(i*7)%320] = uint32(1) << min(i, 31)
		}
		l, e := Lengths(most, counts...)
		for i, n := range l {
			if want := min(int(counts[i]), 1) * most; counts[i] <= 1 && n != want || counts[i] > 1 && n != most {
				t.Errorf("%d bits: symbol %d has %d", most, i, n)
			}
		}
		if len(l) != 320 || e != api.OK {
			t.Error(most, l, e)
		}
		counts[slices.Index(counts, 0)] = 1
		if l, e := Lengths(most, counts...); l != nil || e != api.ErrOver {
			t.Errorf("%d bits, one more: %v %v", most, l, e)
		}
	}
	if l, e := Lengths(9, times(320, 3)...); len(l) != 320 || e != api.OK {
		t.Error(l, e)
	}
}

// P3.2: the rows of the chapter, and the errors in their order.
func TestLengthsRefusals(t *testing.T) {
	for i, r := range []struct {
		most   int
		counts []uint32
		l      []int
		e      api.Errno
	}{
		{15, []uint32{5, 9, 1, 1}, []int{2, 1, 3, 3}, api.OK},
		{2, []uint32{5, 9, 1, 1}, []int{2, 2, 2, 2}, api.OK},
		{1, []uint32{1, 1, 1}, nil, api.ErrOver},
		{15, []uint32{0, 7}, []int{0, 1}, api.OK},
		{1, []uint32{0, 7}, []int{0, 1}, api.OK},
		{1, []uint32{9, 7}, []int{1, 1}, api.OK},
		{1, nil, []int{}, api.OK},
		{15, []uint32{0, 0}, []int{0, 0}, api.OK},
		{0, nil, nil, api.ErrArg},
		{16, nil, nil, api.ErrArg},
		{-1, []uint32{1}, nil, api.ErrArg},
		{math.MinInt, []uint32{1}, nil, api.ErrArg},
		{math.MaxInt, []uint32{1}, nil, api.ErrArg},
		{0, times(321, 1), nil, api.ErrArg},
		{16, times(321, 1), nil, api.ErrArg},
		{0, times(3, 1), nil, api.ErrArg},
		{1, times(321, 1), nil, api.ErrLong},
		{15, times(321, 1), nil, api.ErrLong},
		{15, times(321, 0), nil, api.ErrLong},
		{8, times(70000, 1), nil, api.ErrLong},
		{8, times(320, 1), nil, api.ErrOver},
		{8, times(257, 1), nil, api.ErrOver},
	} {
		if l, e := Lengths(r.most, r.counts...); !slices.Equal(l, r.l) || e != r.e {
			t.Errorf("row %d: %v %v, not %v %v", i, l, e, r.l, r.e)
		}
	}
	for _, n := range []int{321, 70000} {
		for _, c := range []uint32{0, 1, top} {
			if l, e := Plain(times(n, c)...); l != nil || e != api.ErrLong {
				t.Errorf("plain of %d: %v %v", n, l, e)
			}
		}
	}
}

// P3.2: counts are not changed, spare room included; each answer is new memory, and the same again.
func TestCountsAreKeptApart(t *testing.T) {
	room := []uint32{1, 1, 2, 4, 8, 16, 77, 78}
	counts := room[:6]
	for _, tell := range []func() []int{
		func() []int { l, _ := Lengths(15, counts...); return l },
		func() []int { l, _ := Lengths(3, counts...); return l },
		func() []int { l, _ := Plain(counts...); return l },
	} {
		one, two := tell(), tell()
		if !slices.Equal(one, two) {
			t.Error("two answers differ:", one, two)
		}
		clear(one[:cap(one)])
		if slices.Contains(two, 0) {
			t.Error("two answers share memory:", two)
		}
	}
	if !slices.Equal(room, []uint32{1, 1, 2, 4, 8, 16, 77, 78}) {
		t.Error("what was handed in has changed:", room)
	}
}
