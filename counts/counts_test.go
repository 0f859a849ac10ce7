package counts

import (
	"bytes"
	"math"
	"math/rand"
	"testing"

	"palimpsest/api"
)

// P10.1 to P10.3: the chapter's examples.
func TestExamples(t *testing.T) {
	b := make([]byte, 4)
	if n, no := Many(b, 1); n != 16 || no != api.OK {
		t.Error(n, no)
	}
	if x, no := Most(1); x != 3 || no != api.OK {
		t.Error(x, no)
	}
	if x, no := Most(6); x != math.MaxUint64 || no != api.OK {
		t.Error(x, no)
	}
	if no := Set(b, 1, 5, 2); no != api.OK || !bytes.Equal(b, []byte{0, 8, 0, 0}) {
		t.Error(b, no)
	}
	if x, no := Get(b, 1, 5); x != 2 || no != api.OK {
		t.Error(x, no)
	}
	if x, no := Add(b, 1, 5, 2); x != 0 || no != api.ErrLong {
		t.Error(x, no)
	}
	if i, no := Free(b, 1, 5, 2); i != 6 || no != api.OK {
		t.Error(i, no)
	}
	if i, no := Free(b, 1, 0, 99); i != 0 || no != api.ErrNone {
		t.Error(i, no)
	}
	w, no := Widen(b, 1, 3)
	if !bytes.Equal(w, []byte{5: 2, 15: 0}) || no != api.OK {
		t.Error(w, no)
	}
	if back, no := Widen(w, 3, 1); !bytes.Equal(back, []byte{0, 8, 0, 0}) || no != api.OK {
		t.Error(back, no)
	}
	if x, no := Add(b, 1, 5, 1); x != 3 || no != api.OK || b[1] != 12 {
		t.Error(x, no, b)
	}
	if x, no := Get(b, 7, 0); x != 0 || no != api.ErrArg {
		t.Error(x, no)
	}
	if x, no := Get(b, 1, 16); x != 0 || no != api.ErrRange {
		t.Error(x, no)
	}
}

// P10.1: how many there are, by rows: of no bytes, of fewer than one count has, of some left over.
func TestManyRows(t *testing.T) {
	for _, r := range []struct{ long, order, many int }{
		{0, 0, 0}, {0, 3, 0}, {0, 6, 0}, {1, 0, 8}, {1, 1, 4}, {1, 2, 2}, {1, 3, 1}, {1, 4, 0}, {1, 5, 0}, {1, 6, 0},
		{2, 4, 1}, {3, 0, 24}, {3, 3, 3}, {3, 4, 1}, {3, 5, 0}, {4, 5, 1}, {5, 5, 1}, {7, 4, 3}, {7, 5, 1}, {7, 6, 0}, {8, 6, 1}, {9, 6, 1}, {15, 6, 1}, {16, 6, 2},
		{512, 0, 4096}, {512, 4, 256}, {512, 6, 64}, {65536, 0, 524288}, {65536, 6, 8192}, {65535, 6, 8191},
	} {
		if n, no := Many(make([]byte, r.long), r.order); n != r.many || no != api.OK {
			t.Errorf("Many(%d bytes, %d): %d %v, want %d", r.long, r.order, n, no, r.many)
		}
	}
	for _, order := range allOrders() {
		if n, no := Many(nil, order); n != 0 || no != api.OK {
			t.Error(order, n, no)
		}
	}
	// What lies behind the bytes is not theirs.
	if n, no := Many(make([]byte, 3, 64), 4); n != 1 || no != api.OK {
		t.Error(n, no)
	}
}

// P10.1: just the last count is the last one that Get tells.
func TestManyIsWhatGetTells(t *testing.T) {
	for long := range 40 {
		b := bytes.Repeat([]byte{255}, long)
		for _, order := range allOrders() {
			n, no := Many(b, order)
			if no != api.OK || n != long*8/wide(order) {
				t.Fatal(long, order, n, no)
			}
			for i := range n {
				if x, no := Get(b, order, i); x != greatest[order] || no != api.OK {
					t.Fatal(long, order, i, x, no)
				}
			}
			for i := n; i < n+70; i++ {
				if x, no := Get(b, order, i); x != 0 || no != api.ErrRange {
					t.Fatal(long, order, i, x, no)
				}
			}
		}
	}
}

// P10.1: the greatest values.
func TestMost(t *testing.T) {
	for order, want := range greatest {
		if x, no := Most(order); x != want || no != api.OK {
			t.Error(order, x, no)
		}
	}
	for _, order := range oddOrders() {
		if x, no := Most(order); x != 0 || no != api.ErrArg {
			t.Error(order, x, no)
		}
	}
}

// P10.1: where a count's bits lie, by rows.
func TestGetRows(t *testing.T) {
	b := []byte{0x01, 0x23, 0x45, 0x67, 0x89, 0xab, 0xcd, 0xef, 0xff}
	for _, r := range []struct {
		order, i int
		x        uint64
	}{
		{0, 0, 1}, {0, 1, 0}, {0, 8, 1}, {0, 9, 1}, {0, 10, 0}, {0, 13, 1}, {0, 63, 1}, {0, 60, 0}, {0, 71, 1},
		{1, 0, 1}, {1, 1, 0}, {1, 4, 3}, {1, 5, 0}, {1, 6, 2}, {1, 31, 3}, {1, 30, 2}, {1, 35, 3},
		{2, 0, 1}, {2, 1, 0}, {2, 2, 3}, {2, 3, 2}, {2, 14, 15}, {2, 15, 14}, {2, 17, 15},
		{3, 0, 1}, {3, 1, 0x23}, {3, 7, 0xef}, {3, 8, 0xff},
		{4, 0, 0x2301}, {4, 3, 0xefcd}, {5, 0, 0x67452301}, {5, 1, 0xefcdab89}, {6, 0, 0xefcdab8967452301},
	} {
		if x, no := Get(b, r.order, r.i); x != r.x || no != api.OK {
			t.Errorf("Get by %d of %d: %#x %v, want %#x", r.order, r.i, x, no, r.x)
		}
	}
}

// P10.1: all counts of bytes that are drawn, as the words have them; the bytes stay.
func TestGetDrawn(t *testing.T) {
	r := rand.New(rand.NewSource(101))
	for long := range 40 {
		for _, order := range allOrders() {
			short, whole := roomy(drawn(r, long))
			was := bytes.Clone(whole)
			for i, want := range listed(short, order) {
				if x, no := Get(short, order, i); x != want || no != api.OK {
					t.Fatalf("Get(%v, %d, %d): %d %v, want %d", short, order, i, x, no, want)
				}
			}
			if !bytes.Equal(whole, was) {
				t.Fatal("the bytes have changed", was, whole)
			}
		}
	}
}

// P10.1: Set by rows, over noughts and over bits that are all set.
func TestSetRows(t *testing.T) {
	for _, r := range []struct {
		was      []byte
		order, i int
		x        uint64
		want     []byte
	}{
		{[]byte{0, 0}, 0, 0, 1, []byte{1, 0}},
		{[]byte{0, 0}, 0, 7, 1, []byte{128, 0}},
		{[]byte{0, 0}, 0, 8, 1, []byte{0, 1}},
		{[]byte{255, 255}, 0, 15, 0, []byte{255, 127}},
		{[]byte{255, 255}, 1, 3, 1, []byte{127, 255}},
		{[]byte{255, 255}, 1, 3, 2, []byte{191, 255}},
		{[]byte{0, 0}, 1, 4, 3, []byte{0, 3}},
		{[]byte{255, 255}, 2, 1, 6, []byte{0x6f, 255}},
		{[]byte{0, 0}, 2, 2, 9, []byte{0, 9}},
		{[]byte{255, 255}, 3, 1, 77, []byte{255, 77}},
		{[]byte{0, 0, 0}, 4, 0, 258, []byte{2, 1, 0}},
		{[]byte{255, 255, 255}, 4, 0, 0, []byte{0, 0, 255}},
		{[]byte{9, 9, 9, 9, 9, 9, 9, 9}, 5, 1, 0x01020304, []byte{9, 9, 9, 9, 4, 3, 2, 1}},
		{[]byte{9, 9, 9, 9, 9, 9, 9, 9, 9}, 6, 0, 0x0102030405060708, []byte{8, 7, 6, 5, 4, 3, 2, 1, 9}},
		{[]byte{0, 0, 0, 0, 0, 0, 0, 0}, 6, 0, math.MaxUint64, []byte{255, 255, 255, 255, 255, 255, 255, 255}},
	} {
		b := bytes.Clone(r.was)
		if no := Set(b, r.order, r.i, r.x); no != api.OK || !bytes.Equal(b, r.want) {
			t.Errorf("Set(%v, %d, %d, %d): %v %v, want %v", r.was, r.order, r.i, r.x, b, no, r.want)
		}
	}
}

// P10.1 and P10.4: values that fit and such as do not, at the first count, the last one and between: Get behind Set, and all else stays.
func TestSetValues(t *testing.T) {
	r := rand.New(rand.NewSource(102))
	for _, order := range allOrders() {
		for _, x := range append(values(), greatest...) {
			for _, b := range [][]byte{make([]byte, 27), bytes.Repeat([]byte{255}, 27), drawn(r, 27)} {
				last := 27*8/wide(order) - 1
				for _, i := range []int{0, 1, last / 2, last - 1, last} {
					heldSet(t, b, order, i, x)
				}
			}
		}
	}
}

// P10.1 and P10.4: each value of the narrow widths at each place of two bytes, over all that one byte may be.
func TestSetAllNarrow(t *testing.T) {
	for order := range 3 {
		for w := range 256 {
			b := []byte{byte(w), byte(w * 37)}
			for i := range 16 / wide(order) {
				for x := range greatest[order] + 2 {
					heldSet(t, b, order, i, x)
				}
			}
		}
	}
}

// P10.1: Add by rows.
func TestAddRows(t *testing.T) {
	for _, r := range []struct {
		order int
		was   uint64
		by    int64
		x     uint64
		no    api.Errno
	}{
		{0, 0, 0, 0, api.OK}, {0, 1, 0, 1, api.OK}, {0, 0, 1, 1, api.OK}, {0, 1, -1, 0, api.OK}, {0, 1, 1, 0, api.ErrLong}, {0, 0, -1, 0, api.ErrLong}, {0, 1, -2, 0, api.ErrLong},
		{0, 0, 256, 0, api.ErrLong}, {0, 1, 1 << 62, 0, api.ErrLong}, {0, 0, math.MaxInt64, 0, api.ErrLong}, {0, 1, math.MinInt64, 0, api.ErrLong},
		{1, 2, 1, 3, api.OK}, {1, 2, 2, 0, api.ErrLong}, {1, 2, -2, 0, api.OK}, {1, 2, -3, 0, api.ErrLong}, {1, 3, -3, 0, api.OK}, {1, 0, 3, 3, api.OK}, {1, 0, 4, 0, api.ErrLong},
		{3, 255, 0, 255, api.OK}, {3, 254, 1, 255, api.OK}, {3, 255, 1, 0, api.ErrLong}, {3, 200, 256, 0, api.ErrLong}, {3, 200, -256, 0, api.ErrLong}, {3, 200, 1 << 32, 0, api.ErrLong},
		{4, 1, 65534, 65535, api.OK}, {4, 1, 65535, 0, api.ErrLong}, {4, 65535, -65535, 0, api.OK}, {4, 65535, -65536, 0, api.ErrLong},
		{5, 1, 1<<32 - 2, 1<<32 - 1, api.OK}, {5, 1, 1<<32 - 1, 0, api.ErrLong}, {5, 1<<32 - 1, math.MinInt64, 0, api.ErrLong}, {5, 0, math.MaxInt64, 0, api.ErrLong},
		{6, 0, math.MaxInt64, math.MaxInt64, api.OK}, {6, math.MaxInt64, math.MaxInt64, 1<<64 - 2, api.OK}, {6, 1<<64 - 2, math.MaxInt64, 0, api.ErrLong}, {6, 1<<64 - 2, 1, 1<<64 - 1, api.OK},
		{6, 1<<64 - 1, 1, 0, api.ErrLong}, {6, 1<<64 - 1, 0, 1<<64 - 1, api.OK}, {6, 1 << 63, math.MinInt64, 0, api.OK}, {6, 1<<63 - 1, math.MinInt64, 0, api.ErrLong}, {6, 1<<63 + 1, math.MinInt64, 1, api.OK},
		{6, 1<<63 + 1, math.MaxInt64, 0, api.ErrLong}, {6, 1 << 63, math.MaxInt64, 1<<64 - 1, api.OK}, {6, 0, math.MinInt64, 0, api.ErrLong}, {6, 0, -1, 0, api.ErrLong}, {6, 1<<64 - 1, -1, 1<<64 - 2, api.OK}, {6, 1<<64 - 1, math.MinInt64, 1<<63 - 1, api.OK},
	} {
		b := put(bytes.Repeat([]byte{0xa5}, 27), r.order, 1, r.was)
		was := bytes.Clone(b)
		if x, no := Add(b, r.order, 1, r.by); x != r.x || no != r.no {
			t.Errorf("Add of %d to %d by order %d: %d %v, want %d %v", r.by, r.was, r.order, x, no, r.x, r.no)
		}
		if r.no != api.OK && !bytes.Equal(b, was) {
			t.Errorf("refused, Add of %d to %d by order %d changed the bytes", r.by, r.was, r.order)
		}
		heldAdd(t, was, r.order, 1, r.by)
	}
}

// P10.1: all values and steps that stand at edges, by each order, in numbers that never wrap round.
func TestAddAroundEdges(t *testing.T) {
	for _, order := range allOrders() {
		went, refused := 0, 0
		for _, x := range append(values(), greatest...) {
			if x > greatest[order] {
				continue
			}
			b := put(bytes.Repeat([]byte{0x5a}, 17), order, 0, x)
			for _, by := range steps() {
				heldAdd(t, b, order, 0, by)
				if _, no := Add(bytes.Clone(b), order, 0, by); no == api.OK {
					went++
				} else {
					refused++
				}
			}
		}
		if went < 2 || refused < 100 {
			t.Error("too few", order, went, refused)
		}
	}
}

// P10.1: Add at each place of bytes that are drawn; all other counts stay.
func TestAddDrawn(t *testing.T) {
	r := rand.New(rand.NewSource(103))
	for _, order := range allOrders() {
		for range 300 {
			b := drawn(r, wide(order)/8+1+r.Intn(20))
			i := r.Intn(len(b) * 8 / wide(order))
			heldAdd(t, b, order, i, steps()[r.Intn(len(steps()))])
			heldAdd(t, b, order, i, int64(r.Intn(9)-4))
			heldAdd(t, b, order, i, -int64(said(b, order, i)))
			heldAdd(t, b, order, i, int64(greatest[order]-said(b, order, i)))
		}
	}
}

// P10.1 and P10.4: many writings one behind the other, held against a plain list of numbers.
func TestWritingsInARow(t *testing.T) {
	r := rand.New(rand.NewSource(104))
	for _, order := range allOrders() {
		b := make([]byte, 43)
		l := make([]uint64, 43*8/wide(order))
		for range 500 {
			i := r.Intn(len(l))
			x := r.Uint64() & greatest[order]
			if r.Intn(2) == 0 {
				if no := Set(b, order, i, x); no != api.OK {
					t.Fatal(order, i, x, no)
				}
				l[i] = x
			} else if got, no := Add(b, order, i, 1); l[i] == greatest[order] {
				if got != 0 || no != api.ErrLong {
					t.Fatal(order, i, got, no)
				}
			} else if l[i]++; got != l[i] || no != api.OK {
				t.Fatal(order, i, got, no)
			}
			for k, want := range l {
				if x, no := Get(b, order, k); x != want || no != api.OK {
					t.Fatal(order, k, x, no, want)
				}
			}
		}
	}
}
