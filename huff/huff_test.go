package huff

import (
	"math"
	"math/big"
	"slices"
	"sort"
	"strings"
	"testing"

	"palimpsest/api"
)

// same is a list of n equal lengths.
func same(n, length int) []int {
	l := make([]int, n)
	for i := range l {
		l[i] = length
	}
	return l
}

// with is lists one behind the other.
func with(lists ...[]int) []int { return slices.Concat(lists...) }

// fractions is the sum of 1/2^length over the symbols that have a code, as the weight is told elsewhere.
func fractions(lengths []int) *big.Rat {
	sum := new(big.Rat)
	for _, n := range lengths {
		if n > 0 {
			sum.Add(sum, new(big.Rat).SetFrac(big.NewInt(1), new(big.Int).Lsh(big.NewInt(1), uint(n))))
		}
	}
	return sum
}

// rows are the codes of lengths as texts of 0 and 1, by the words of the chapter; "" of symbols without one, nil if the lengths are over.
func rows(lengths []int) []string {
	var order []int
	for s, n := range lengths {
		if n > 0 {
			order = append(order, s)
		}
	}
	sort.SliceStable(order, func(i, j int) bool { return lengths[order[i]] < lengths[order[j]] })
	l := make([]string, len(lengths))
	last := ""
	for i, s := range order {
		if i > 0 {
			if last = oneMore(last); last == "" {
				return nil
			}
		}
		last += strings.Repeat("0", lengths[s]-len(last))
		l[s] = last
	}
	return l
}

// oneMore is the next row of as many bits, "" behind the last one.
func oneMore(row string) string {
	b := []byte(row)
	for i := len(b) - 1; i >= 0; i-- {
		if b[i] == '0' {
			b[i] = '1'
			return string(b)
		}
		b[i] = '0'
	}
	return ""
}

// value is a row of bits as a number, its first bit the highest.
func value(row string) uint64 {
	x := uint64(0)
	for _, c := range row {
		x = 2*x + uint64(c-'0')
	}
	return x
}

// allLengths are all lists of at most n symbols with lengths from 0 to most.
func allLengths(n, most int) [][]int {
	l := [][]int{{}}
	for from := 0; n > 0; n-- {
		to := len(l)
		for ; from < to; from++ {
			for k := 0; k <= most; k++ {
				l = append(l, append(slices.Clone(l[from]), k))
			}
		}
	}
	return l
}

// fixed is the lengths of RFC 1951's fixed code.
func fixed() []int { return with(same(144, 8), same(112, 9), same(24, 7), same(8, 8)) }

// stairs is the lengths 1, 2 .. n.
func stairs(n int) []int {
	var l []int
	for k := 1; k <= n; k++ {
		l = append(l, k)
	}
	return l
}

// samples are lists of lengths that are not over: few and many symbols, short and long ones, whole and short.
func samples() map[string][]int {
	return map[string][]int{
		"none":              nil,
		"empty":             {},
		"without a code":    {0},
		"all without":       same(320, 0),
		"one":               {1},
		"one long":          {15},
		"one behind others": {0, 0, 0, 7},
		"two":               {1, 1},
		"two short":         {2, 2},
		"of the chapter":    {2, 1, 3, 3},
		"three":             {0, 2, 1, 0, 2, 0},
		"fixed":             fixed(),
		"of RFC 1951":       {3, 3, 3, 3, 3, 2, 4, 4},
		"stairs, whole":     with(stairs(15), []int{15}),
		"stairs, short":     stairs(15),
		"stairs down":       {15, 15, 14, 13, 12, 11, 10, 9, 8, 7, 6, 5, 4, 3, 2, 1},
		"320 long":          same(320, 15),
		"320 whole":         with(same(192, 8), same(128, 9)),
		"320, one below":    with(same(192, 8), same(127, 9), []int{10}),
		"gaps":              {1, 0, 0, 5, 0, 5, 5, 15, 0, 15, 3},
	}
}

// overs are lists of lengths that are over, some just by one.
func overs() map[string][]int {
	return map[string][]int{
		"three of one":    {1, 1, 1},
		"one over":        {1, 1, 15},
		"one over, ahead": {15, 1, 1},
		"chapter's":       {2, 1, 3, 3, 15},
		"stairs":          with(stairs(15), []int{15, 15}),
		"320":             with(same(192, 8), same(127, 9), []int{8}),
		"far":             same(320, 1),
		"fixed and one":   with(fixed(), []int{15}),
	}
}

// wrongLengths are numbers that are no lengths.
var wrongLengths = []int{-1, 16, math.MinInt, math.MaxInt, -15, 17, 320, 1 << 32, -1 << 32, 64}

// refusals are lists that Weight, Codes and New refuse alike, with the first of the errors that they have.
func refusals() map[string]struct {
	lengths []int
	e       api.Errno
} {
	l := map[string]struct {
		lengths []int
		e       api.Errno
	}{
		"321":                      {same(321, 0), api.ErrLong},
		"321 long":                 {same(321, 15), api.ErrLong},
		"321, over":                {same(321, 1), api.ErrLong},
		"70000":                    {same(70000, 0), api.ErrLong},
		"321, the last wrong":      {with(same(320, 0), []int{16}), api.ErrArg},
		"321, over, the first not": {with([]int{-1}, same(320, 1)), api.ErrArg},
		"70000, one wrong":         {with(same(69999, 2), []int{-1}), api.ErrArg},
		"over and wrong":           {[]int{1, 1, 1, 16}, api.ErrArg},
	}
	for _, n := range wrongLengths {
		for _, lengths := range [][]int{{n}, {n, 1}, {1, n}, {0, 0, n, 0}} {
			l[strings.Join([]string{"wrong", big.NewInt(int64(n)).String(), big.NewInt(int64(len(lengths))).String()}, " ")] = struct {
				lengths []int
				e       api.Errno
			}{lengths, api.ErrArg}
		}
	}
	return l
}

// P3.1: Weight is the sum over the symbols that have a code, whole, short or over.
func TestWeight(t *testing.T) {
	for _, r := range []struct {
		lengths []int
		weight  int
	}{
		{nil, 0}, {[]int{0}, 0}, {same(320, 0), 0}, {[]int{1}, 16384}, {[]int{15}, 1}, {[]int{14}, 2}, {[]int{2, 1, 3, 3}, 32768},
		{[]int{1, 1, 15}, 32769}, {stairs(15), 32767}, {same(320, 1), 320 * 16384}, {same(320, 15), 320}, {fixed(), 32768},
	} {
		if n, e := Weight(r.lengths...); n != r.weight || e != api.OK {
			t.Errorf("%v: %d %v, not %d", r.lengths, n, e, r.weight)
		}
	}
	for _, l := range allLengths(4, 4) {
		want := new(big.Rat).Mul(fractions(l), big.NewRat(32768, 1))
		if n, e := Weight(l...); e != api.OK || want.Cmp(big.NewRat(int64(n), 1)) != 0 {
			t.Errorf("%v: %d %v, not %v", l, n, e, want)
		}
	}
}

// P3.1: Codes are as RFC 1951 says, of all short lists that are not over, and of long ones.
func TestCodes(t *testing.T) {
	lists := allLengths(5, 5)
	for _, l := range samples() {
		lists = append(lists, l)
	}
	for _, l := range lists {
		over := fractions(l).Cmp(big.NewRat(1, 1)) > 0
		c, e := Codes(l...)
		if over {
			if e != api.ErrOver || c != nil {
				t.Errorf("%v: %v %v, not ErrOver", l, c, e)
			}
			continue
		}
		var want []uint64
		for _, row := range rows(l) {
			want = append(want, value(row))
		}
		if !slices.Equal(c, want) || e != api.OK {
			t.Errorf("%v: %v %v, not %v", l, c, e, want)
		}
	}
	// RFC 1951, 3.2.2 and 3.2.6.
	if c, _ := Codes(3, 3, 3, 3, 3, 2, 4, 4); !slices.Equal(c, []uint64{2, 3, 4, 5, 6, 0, 14, 15}) {
		t.Error(c)
	}
	c, _ := Codes(fixed()...)
	for s, want := range map[int]uint64{0: 0b00110000, 143: 0b10111111, 144: 0b110010000, 255: 0b111111111, 256: 0, 279: 0b0010111, 280: 0b11000000, 287: 0b11000111} {
		if len(c) != 288 || c[s] != want {
			t.Errorf("fixed, symbol %d: %b, not %b", s, c, want)
		}
	}
}

// P3.1, P3.3: lengths that are over have a weight, but no codes.
func TestOver(t *testing.T) {
	for name, l := range overs() {
		if n, e := Weight(l...); n <= 32768 || e != api.OK {
			t.Errorf("%s: weight %d %v", name, n, e)
		}
		if c, e := Codes(l...); c != nil || e != api.ErrOver {
			t.Errorf("%s: codes %v %v", name, c, e)
		}
		if c, e := New(l...); c != nil || e != api.ErrOver {
			t.Errorf("%s: new %v %v", name, c, e)
		}
	}
}

// P3.1, P3.3: what are no lengths is refused, with the first of the errors; beside it nothing is told.
func TestRefusals(t *testing.T) {
	for name, r := range refusals() {
		if n, e := Weight(r.lengths...); n != 0 || e != r.e {
			t.Errorf("%s: weight %d %v, not %v", name, n, e, r.e)
		}
		if c, e := Codes(r.lengths...); c != nil || e != r.e {
			t.Errorf("%s: codes %v %v, not %v", name, c, e, r.e)
		}
		if c, e := New(r.lengths...); c != nil || e != r.e {
			t.Errorf("%s: new %v %v, not %v", name, c, e, r.e)
		}
	}
}

// P3.2: the cost is the sum of count times length.
func TestCost(t *testing.T) {
	top := uint32(math.MaxUint32)
	many := make([]uint32, 320)
	for i := range many {
		many[i] = top
	}
	for i, r := range []struct {
		lengths []int
		counts  []uint32
		cost    uint64
		e       api.Errno
	}{
		{nil, nil, 0, api.OK},
		{[]int{}, nil, 0, api.OK},
		{[]int{2, 1, 3, 3}, []uint32{5, 9, 1, 1}, 25, api.OK},
		{[]int{1, 1, 1}, []uint32{1, 2, 3}, 6, api.OK}, // over, and yet it costs
		{[]int{0, 7}, []uint32{9, 0}, 0, api.OK},
		{[]int{16}, []uint32{top}, 16 * uint64(top), api.OK},
		{[]int{320}, []uint32{1}, 320, api.OK},
		{[]int{0, 320}, []uint32{top, top}, 320 * uint64(top), api.OK},
		{same(320, 320), many, 320 * 320 * uint64(top), api.OK},
		{[]int{321}, []uint32{1}, 0, api.ErrArg},
		{[]int{321}, []uint32{0}, 0, api.ErrArg},
		{[]int{-1}, []uint32{0}, 0, api.ErrArg},
		{[]int{1, math.MinInt}, []uint32{1, 1}, 0, api.ErrArg},
		{[]int{math.MaxInt, 1}, []uint32{1, 1}, 0, api.ErrArg},
		{[]int{1}, nil, 0, api.ErrArg},
		{nil, []uint32{1}, 0, api.ErrArg},
		{[]int{1, 1}, []uint32{1}, 0, api.ErrArg},
		{[]int{1}, []uint32{1, 1}, 0, api.ErrArg},
		{same(321, 1), make([]uint32, 321), 0, api.ErrLong},
		{same(70000, 1), make([]uint32, 70000), 0, api.ErrLong},
		{same(321, 1), make([]uint32, 320), 0, api.ErrArg},
		{same(320, 1), make([]uint32, 321), 0, api.ErrArg},
		{same(322, 1), make([]uint32, 321), 0, api.ErrArg},
		{with(same(320, 1), []int{321}), make([]uint32, 321), 0, api.ErrArg},
		{with(same(320, 1), []int{-1}), make([]uint32, 321), 0, api.ErrArg},
	} {
		if n, e := Cost(r.lengths, r.counts...); n != r.cost || e != r.e {
			t.Errorf("row %d: %d %v, not %d %v", i, n, e, r.cost, r.e)
		}
	}
}

// P3.1, P3.2: lists that are handed in are not changed, spare room included, and what is told is new memory.
func TestListsAreKeptApart(t *testing.T) {
	room := []int{2, 1, 3, 3, 77, 78}
	list := room[:4]
	one, _ := Codes(list...)
	two, _ := Codes(list...)
	clear(one[:cap(one)])
	if !slices.Equal(two, []uint64{2, 0, 6, 7}) {
		t.Error("two answers share memory:", two)
	}
	Weight(list...)
	Cost(list, 5, 9, 1, 1)
	c, _ := New(list...)
	out := c.Lengths()
	clear(out[:cap(out)])
	if !slices.Equal(room, []int{2, 1, 3, 3, 77, 78}) {
		t.Error("what was handed in has changed:", room)
	}
	clear(room)
	if l := c.Lengths(); !slices.Equal(l, []int{2, 1, 3, 3}) {
		t.Error("the code shares its lengths:", l)
	}
}
