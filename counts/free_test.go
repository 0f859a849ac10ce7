package counts

import (
	"bytes"
	"math"
	"math/rand"
	"testing"

	"palimpsest/api"
)

// edges are numbers below how many counts there are, and above.
func edges(many int) []int {
	return []int{0, 1, 2, 3, many / 2, many - 2, many - 1, many, many + 1, many + 2, -1, -2, -many, math.MinInt, math.MinInt + 1, math.MaxInt, math.MaxInt - 1, math.MaxInt - many, math.MaxInt - many + 1, 1 << 32, 1<<32 + 1, 1 << 62}
}

// P10.2: Free by rows.
func TestFreeRows(t *testing.T) {
	b := []byte{0b0001_0010, 0b1000_0000} // 1, 4 and 15 are held, by the order 0
	for _, r := range []struct {
		from, n, i int
		no         api.Errno
	}{
		{0, 1, 0, api.OK}, {0, 2, 2, api.OK}, {0, 3, 5, api.OK}, {0, 10, 5, api.OK}, {0, 11, 0, api.ErrNone}, {0, 16, 0, api.ErrNone}, {0, 17, 0, api.ErrNone},
		{1, 1, 2, api.OK}, {2, 1, 2, api.OK}, {2, 2, 2, api.OK}, {3, 1, 3, api.OK}, {3, 2, 5, api.OK}, {4, 1, 5, api.OK}, {5, 10, 5, api.OK}, {6, 9, 6, api.OK}, {6, 10, 0, api.ErrNone},
		{14, 1, 14, api.OK}, {14, 2, 0, api.ErrNone}, {15, 1, 0, api.ErrNone}, {16, 1, 0, api.ErrNone}, {16, 2, 0, api.ErrNone}, {17, 1, 0, api.ErrRange}, {-1, 1, 0, api.ErrRange},
		{0, 0, 0, api.ErrArg}, {0, -1, 0, api.ErrArg}, {17, 0, 0, api.ErrArg}, {-1, -1, 0, api.ErrArg}, {17, math.MaxInt, 0, api.ErrRange}, {0, math.MaxInt, 0, api.ErrNone}, {16, math.MaxInt, 0, api.ErrNone}, {15, math.MaxInt - 14, 0, api.ErrNone},
		{math.MaxInt, 1, 0, api.ErrRange}, {math.MinInt, 1, 0, api.ErrRange}, {math.MaxInt, math.MaxInt, 0, api.ErrRange}, {math.MinInt, math.MinInt, 0, api.ErrArg},
	} {
		if i, no := Free(b, 0, r.from, r.n); i != r.i || no != r.no {
			t.Errorf("Free from %d, %d: %d %v, want %d %v", r.from, r.n, i, no, r.i, r.no)
		}
	}
}

// P10.2: all counts are free: just the rest is a run, one more than it is none.
func TestFreeOfNoughts(t *testing.T) {
	for _, order := range allOrders() {
		for _, long := range []int{0, 1, 7, 8, 9, 24, 31} {
			many := long * 8 / wide(order)
			b := make([]byte, long)
			for from := range many {
				if i, no := Free(b, order, from, many-from); i != from || no != api.OK {
					t.Error(order, long, from, i, no)
				}
				if i, no := Free(b, order, from, many-from+1); i != 0 || no != api.ErrNone {
					t.Error(order, long, from, i, no)
				}
			}
			if i, no := Free(b, order, many, 1); i != 0 || no != api.ErrNone {
				t.Error(order, long, i, no)
			}
			if i, no := Free(b, order, many+1, 1); i != 0 || no != api.ErrRange {
				t.Error(order, long, i, no)
			}
		}
	}
}

// P10.2: each single bit of a count makes it one that is not free, the highest one too; bits that are left over are no count's.
func TestFreeAsksAllBits(t *testing.T) {
	for _, order := range allOrders() {
		for k := range wide(order) {
			b := make([]byte, 24)
			b[k/8] = 1 << (k % 8)
			if i, no := Free(b, order, 0, 1); i != 1 || no != api.OK {
				t.Error(order, k, i, no)
			}
			if i, no := Free(b, order, 0, 24*8/wide(order)); i != 0 || no != api.ErrNone {
				t.Error(order, k, i, no)
			}
		}
	}
	if i, no := Free([]byte{0, 0, 255}, 4, 0, 1); i != 0 || no != api.OK {
		t.Error(i, no)
	}
	if i, no := Free([]byte{1, 0, 0}, 4, 0, 1); i != 0 || no != api.ErrNone {
		t.Error(i, no)
	}
}

// P10.2 and P10.4: all that twelve bits may be, noughts at either side, by the order 0, from each count on, of each length.
func TestFreeOfAllTwelveBits(t *testing.T) {
	for w := range 1 << 12 {
		w <<= 2
		b := []byte{byte(w), byte(w >> 8)}
		l := listed16(w)
		for from := range 17 {
			for n := 1; n <= 17; n++ {
				want, no := wantFree(l, from, n)
				if i, told := Free(b, 0, from, n); i != want || told != no {
					t.Fatalf("Free(%v, 0, %d, %d): %d %v, want %d %v", b, from, n, i, told, want, no)
				}
			}
		}
	}
}

// listed16 is the sixteen bits of w.
func listed16(w int) []uint64 {
	l := make([]uint64, 16)
	for k := range l {
		l[k] = uint64(w / (1 << k) % 2)
	}
	return l
}

// P10.2 and P10.4: bytes that are drawn, by each order, from all edges, of all lengths at edges.
func TestFreeDrawn(t *testing.T) {
	r := rand.New(rand.NewSource(105))
	for _, order := range allOrders() {
		found, none := 0, 0
		for long := range 60 {
			b := drawn(r, long)
			clear(b[long/4 : long*3/4])
			l := listed(b, order)
			for _, from := range edges(len(l)) {
				for _, n := range edges(len(l)) {
					heldFree(t, b, l, order, from, n)
				}
				for n := 1; n < 12; n++ {
					heldFree(t, b, l, order, from, n)
				}
			}
			for range 30 {
				from, n := r.Intn(len(l)+1), 1+r.Intn(1+len(l)/2)
				heldFree(t, b, l, order, from, n)
				if _, no := Free(b, order, from, n); no == api.OK {
					found++
				} else {
					none++
				}
			}
		}
		if found < 20 || none < 20 {
			t.Error("too few", order, found, none)
		}
	}
}

// P10.4: what Free tells is free, counts one can take and take till none is left, each of them once.
func TestFreeAndTake(t *testing.T) {
	for _, order := range allOrders() {
		b := make([]byte, 33)
		many := 33 * 8 / wide(order)
		for want := range many {
			i, no := Free(b, order, 0, 1)
			if i != want || no != api.OK {
				t.Fatal(order, i, no)
			}
			if x, no := Add(b, order, i, 1); x != 1 || no != api.OK {
				t.Fatal(order, i, x, no)
			}
		}
		if i, no := Free(b, order, 0, 1); i != 0 || no != api.ErrNone {
			t.Error(order, i, no)
		}
		if x, no := Add(b, order, many-1, -1); x != 0 || no != api.OK {
			t.Error(order, x, no)
		}
		if i, no := Free(b, order, 0, 1); i != many-1 || no != api.OK {
			t.Error(order, i, no)
		}
	}
}

// P10.2: many runs that are one too short are passed over at once, not count by count anew.
func TestFreeOfLongBytes(t *testing.T) {
	b := bytes.Repeat(append(make([]byte, 4095), 128), 256) // runs of 32767
	if i, no := Free(b, 0, 0, 32768); i != 0 || no != api.ErrNone {
		t.Error(i, no)
	}
	if i, no := Free(b, 0, 1, 32767); i != 32768 || no != api.OK {
		t.Error(i, no)
	}
	b[len(b)-4097] = 0
	if i, no := Free(b, 0, 0, 32768); i != 254*32768 || no != api.OK {
		t.Error(i, no)
	}
	if i, no := Free(b, 0, 254*32768, 65535); i != 254*32768 || no != api.OK {
		t.Error(i, no)
	}
	if i, no := Free(b, 0, 254*32768, 65536); i != 0 || no != api.ErrNone {
		t.Error(i, no)
	}
}
