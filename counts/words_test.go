package counts

import (
	"bytes"
	"math"
	"math/big"
	"math/rand"
	"slices"
	"testing"

	"palimpsest/api"
)

// Most values as the chapter says them: 2^(2^order) - 1.
var greatest = []uint64{1, 3, 15, 255, 65535, 4294967295, 18446744073709551615}

// oddOrders are orders that may not be.
func oddOrders() []int {
	return []int{-1, 7, 8, -2, -6, -7, 16, 63, 64, 65, 256, 262, 1 << 32, 1<<32 + 1, 1<<32 + 6, 1 << 62, math.MaxInt, math.MaxInt - 6, math.MinInt, math.MinInt + 1, math.MinInt + 6}
}

// oddPlaces are places where bytes of a hundred and fewer have no count; products of theirs with widths wrap round to places where they have some.
func oddPlaces() []int {
	l := []int{-1, -2, -7, -8, -64, math.MinInt, math.MinInt + 1, math.MinInt + 5, math.MaxInt, math.MaxInt - 1, math.MaxInt - 63}
	for k := 30; k < 63; k++ {
		l = append(l, 1<<k, 1<<k+1, 1<<k-1, 1<<k+5, -1<<k, 1-1<<k)
	}
	return l
}

// allOrders are all that may be.
func allOrders() []int { return []int{0, 1, 2, 3, 4, 5, 6} }

// wide is how many bits a count has.
func wide(order int) int { return int(math.Pow(2, float64(order))) }

// number is bytes as one number, the lowest byte first: count i is a part of its digits.
func number(b []byte) *big.Int {
	turned := bytes.Clone(b)
	slices.Reverse(turned)
	return new(big.Int).SetBytes(turned)
}

// power is 2^n.
func power(n int) *big.Int { return new(big.Int).Exp(big.NewInt(2), big.NewInt(int64(n)), nil) }

// said is count i as the chapter's section 'Words' says it.
func said(b []byte, order, i int) uint64 {
	x := new(big.Int).Div(number(b), power(i*wide(order)))
	return x.Mod(x, power(wide(order))).Uint64()
}

// put is the bytes with count i being x, all else as it was.
func put(b []byte, order, i int, x uint64) []byte {
	by := new(big.Int).Sub(new(big.Int).SetUint64(x), new(big.Int).SetUint64(said(b, order, i)))
	n := number(b)
	n.Add(n, by.Mul(by, power(i*wide(order))))
	out := n.FillBytes(make([]byte, len(b)))
	slices.Reverse(out)
	return out
}

// listed is all counts that there are.
func listed(b []byte, order int) []uint64 {
	var l []uint64
	for i := range len(b) * 8 / wide(order) {
		l = append(l, said(b, order, i))
	}
	return l
}

// drawn is bytes, many of them noughts.
func drawn(r *rand.Rand, long int) []byte {
	b := make([]byte, long)
	for i := range b {
		switch r.Intn(4) {
		case 0:
			b[i] = byte(r.Intn(256))
		case 1:
			b[i] = 1 << r.Intn(8)
		}
	}
	return b
}

// roomy is b with spare room behind it, and that whole room.
func roomy(b []byte) (short, whole []byte) {
	whole = append(bytes.Clone(b), "spare room behind the counts' bytes"...)
	return whole[:len(b)], whole
}

// values are such as fit some widths and do not fit others.
func values() []uint64 {
	l := []uint64{0, 1, 2, 3, 4, 5, 100, 1<<64 - 1, 1<<64 - 2, 1 << 63, 0xa5a5a5a5a5a5a5a5, 0x0123456789abcdef}
	for k := range 64 {
		l = append(l, 1<<k, 1<<k-1, 1<<k+1)
	}
	return l
}

// steps are numbers to add.
func steps() []int64 {
	l := []int64{0, 1, -1, 2, -2, 3, -3, math.MaxInt64, math.MaxInt64 - 1, math.MinInt64, math.MinInt64 + 1}
	for k := 2; k < 63; k++ {
		l = append(l, 1<<k, 1<<k-1, 1<<k+1, -1<<k, 1-1<<k, -1-1<<k)
	}
	return l
}

// heldSet holds Set and what Get tells behind it against the words: all other counts and all other bytes stay.
func heldSet(t *testing.T, b []byte, order, i int, x uint64) {
	t.Helper()
	short, whole := roomy(b)
	_, spare := roomy(nil)
	want, no := b, api.ErrLong
	if x <= greatest[order] {
		want, no = put(b, order, i, x), api.OK
	}
	if got := Set(short, order, i, x); got != no {
		t.Fatalf("Set(%v, %d, %d, %d): %v, want %v", b, order, i, x, got, no)
	}
	if !bytes.Equal(whole, append(bytes.Clone(want), spare...)) {
		t.Fatalf("Set(%v, %d, %d, %d) left %v, want %v", b, order, i, x, whole, want)
	}
	if got, no := Get(short, order, i); no != api.OK || got != said(want, order, i) {
		t.Fatalf("Get behind Set(%v, %d, %d, %d): %d %v", b, order, i, x, got, no)
	}
}

// heldAdd holds Add against the words, in numbers that never wrap round.
func heldAdd(t *testing.T, b []byte, order, i int, by int64) {
	t.Helper()
	short, whole := roomy(b)
	_, spare := roomy(nil)
	sum := new(big.Int).Add(new(big.Int).SetUint64(said(b, order, i)), big.NewInt(by))
	want, x, no := b, uint64(0), api.ErrLong
	if sum.Sign() >= 0 && sum.Cmp(power(wide(order))) < 0 {
		x, no = sum.Uint64(), api.OK
		want = put(b, order, i, x)
	}
	if got, told := Add(short, order, i, by); got != x || told != no {
		t.Fatalf("Add(%v, %d, %d, %d): %d %v, want %d %v", b, order, i, by, got, told, x, no)
	}
	if !bytes.Equal(whole, append(bytes.Clone(want), spare...)) {
		t.Fatalf("Add(%v, %d, %d, %d) left %v, want %v", b, order, i, by, whole, want)
	}
}

// wantFree is what Free must tell: each place is tried, all counts from there on are asked.
func wantFree(l []uint64, from, n int) (int, api.Errno) {
	if n < 1 {
		return 0, api.ErrArg
	}
	if from < 0 || from > len(l) {
		return 0, api.ErrRange
	}
	for i := from; i < len(l); i++ {
		run := 0
		for _, x := range l[i:] {
			if x != 0 {
				break
			}
			run++
		}
		if run >= n {
			return i, api.OK
		}
	}
	return 0, api.ErrNone
}

// heldFree holds Free against the words; the bytes stay as they are.
func heldFree(t *testing.T, b []byte, l []uint64, order, from, n int) {
	t.Helper()
	short, whole := roomy(b)
	was := bytes.Clone(whole)
	want, no := wantFree(l, from, n)
	if got, told := Free(short, order, from, n); got != want || told != no {
		t.Fatalf("Free(%v, %d, %d, %d): %d %v, want %d %v", b, order, from, n, got, told, want, no)
	}
	if !bytes.Equal(whole, was) {
		t.Fatalf("Free(%v, %d, %d, %d) left %v", was, order, from, n, whole)
	}
}
