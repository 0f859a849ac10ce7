package counts

import (
	"bytes"
	"math"
	"testing"

	"palimpsest/api"
)

// wrongPlaces are all places of which none is there.
func wrongPlaces(many int) []int { return append(oddPlaces(), many, many+1, many+8) }

// refused asks for a count that is not there: all calls refuse it by the same error, and the bytes stay.
func refused(t *testing.T, b []byte, order, i int, want api.Errno) {
	t.Helper()
	short, whole := roomy(b)
	was := bytes.Clone(whole)
	if x, no := Get(short, order, i); x != 0 || no != want {
		t.Errorf("Get(%d bytes, %d, %d): %d %v, want %v", len(b), order, i, x, no, want)
	}
	for _, x := range []uint64{0, 1, 2, 256, math.MaxUint64} {
		if no := Set(short, order, i, x); no != want {
			t.Errorf("Set(%d bytes, %d, %d, %d): %v, want %v", len(b), order, i, x, no, want)
		}
	}
	for _, by := range []int64{0, 1, -1, math.MinInt64, math.MaxInt64} {
		if x, no := Add(short, order, i, by); x != 0 || no != want {
			t.Errorf("Add(%d bytes, %d, %d, %d): %d %v, want %v", len(b), order, i, by, x, no, want)
		}
	}
	if !bytes.Equal(whole, was) {
		t.Fatalf("refused (order %d, place %d), the bytes have changed", order, i)
	}
}

// P10.1: places that are not there, of no bytes, of fewer than a count has, of some left over; ahead of values that do not fit.
func TestPlacesThatAreNotThere(t *testing.T) {
	for _, order := range allOrders() {
		for _, long := range []int{0, 1, 2, 3, 4, 5, 7, 8, 9, 15, 16, 17} {
			b := bytes.Repeat([]byte{0x3c}, long)
			many := long * 8 / wide(order)
			for _, i := range wrongPlaces(many) {
				refused(t, b, order, i, api.ErrRange)
			}
			if many > 0 {
				if _, no := Get(b, order, many-1); no != api.OK {
					t.Error("the last count is refused", order, long, no)
				}
			}
		}
		refused(t, nil, order, 0, api.ErrRange)
	}
}

// P10.1 to P10.3: orders that may not be, whatever else is wrong.
func TestOrdersThatMayNotBe(t *testing.T) {
	for _, order := range oddOrders() {
		for _, b := range [][]byte{nil, {}, {0}, {255}, make([]byte, 16), bytes.Repeat([]byte{255}, 17)} {
			if n, no := Many(b, order); n != 0 || no != api.ErrArg {
				t.Error("Many", order, n, no)
			}
			for _, i := range append(oddPlaces(), 0, 1, 15) {
				refused(t, b, order, i, api.ErrArg)
			}
			for _, from := range []int{0, 1, -1, 1000, math.MinInt, math.MaxInt} {
				for _, n := range []int{1, 0, -1, 2, 1000, math.MinInt, math.MaxInt} {
					if i, no := Free(b, order, from, n); i != 0 || no != api.ErrArg {
						t.Error("Free", order, from, n, i, no)
					}
				}
			}
			all := All(b, order)
			if all == nil {
				t.Fatal("no iterator", order)
			}
			for i, x := range all {
				t.Error("All", order, i, x)
			}
			for _, to := range append(oddOrders(), allOrders()...) {
				if w, no := Widen(b, order, to); len(w) != 0 || no != api.ErrArg {
					t.Error("Widen", order, to, w, no)
				}
				if w, no := Widen(b, to, order); len(w) != 0 || no != api.ErrArg {
					t.Error("Widen", to, order, w, no)
				}
			}
		}
	}
}

// P10.1: a value that does not fit is refused at a count that is there, one that is not there for its place.
func TestRangeAheadOfLong(t *testing.T) {
	b := make([]byte, 4)
	for order, x := range greatest[:6] {
		many := 32 / wide(order)
		if no := Set(b, order, many-1, x+1); no != api.ErrLong {
			t.Error(order, no)
		}
		if no := Set(b, order, many, x+1); no != api.ErrRange {
			t.Error(order, no)
		}
		if no := Set(b, order, -1, math.MaxUint64); no != api.ErrRange {
			t.Error(order, no)
		}
		if _, no := Add(b, order, many-1, -1); no != api.ErrLong {
			t.Error(order, no)
		}
		if _, no := Add(b, order, many, -1); no != api.ErrRange {
			t.Error(order, no)
		}
	}
	if !bytes.Equal(b, make([]byte, 4)) {
		t.Error(b)
	}
}
