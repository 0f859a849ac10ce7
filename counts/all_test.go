package counts

import (
	"bytes"
	"iter"
	"math/rand"
	"slices"
	"testing"

	"palimpsest/api"
)

// told is a count with its place, as All tells it.
type told struct {
	i int
	x uint64
}

// gathered is all that an iterator tells.
func gathered(all iter.Seq2[int, uint64]) []told {
	var l []told
	for i, x := range all {
		l = append(l, told{i, x})
	}
	return l
}

// wantAll is what All must tell.
func wantAll(b []byte, order int) []told {
	var l []told
	for i, x := range listed(b, order) {
		if x != 0 {
			l = append(l, told{i, x})
		}
	}
	return l
}

// P10.2: All by rows.
func TestAllRows(t *testing.T) {
	for _, r := range []struct {
		b     []byte
		order int
		l     []told
	}{
		{nil, 0, nil},
		{[]byte{}, 6, nil},
		{[]byte{0}, 0, nil},
		{[]byte{255}, 4, nil},
		{[]byte{255, 255, 255, 255, 255, 255, 255}, 6, nil},
		{make([]byte, 99), 3, nil},
		{[]byte{0x81}, 0, []told{{0, 1}, {7, 1}}},
		{[]byte{0, 8, 0, 0xc0}, 1, []told{{5, 2}, {15, 3}}},
		{[]byte{0x0f, 0xf0}, 2, []told{{0, 15}, {3, 15}}},
		{[]byte{0, 7, 0}, 3, []told{{1, 7}}},
		{[]byte{0, 0, 1, 2, 9}, 4, []told{{1, 513}}},
		{[]byte{0, 0, 0, 128, 0, 0, 0, 0, 1, 0, 0, 0}, 5, []told{{0, 1 << 31}, {2, 1}}},
		{[]byte{0, 0, 0, 0, 0, 0, 0, 128, 255, 255, 255, 255, 255, 255, 255, 255, 3}, 6, []told{{0, 1 << 63}, {1, 1<<64 - 1}}},
	} {
		if l := gathered(All(r.b, r.order)); !slices.Equal(l, r.l) {
			t.Errorf("All(%v, %d): %v, want %v", r.b, r.order, l, r.l)
		}
	}
}

// P10.2: bytes that are drawn, gone through twice; the bytes stay.
func TestAllDrawn(t *testing.T) {
	r := rand.New(rand.NewSource(106))
	for long := range 60 {
		for _, order := range allOrders() {
			short, whole := roomy(drawn(r, long))
			was := bytes.Clone(whole)
			want := wantAll(short, order)
			all := All(short, order)
			for range 2 {
				if l := gathered(all); !slices.Equal(l, want) {
					t.Fatalf("All(%v, %d): %v, want %v", short, order, l, want)
				}
			}
			if !bytes.Equal(whole, was) {
				t.Fatal("the bytes have changed", was, whole)
			}
		}
	}
}

// P10.2: it may be left at any time, and gone through from its begin again.
func TestAllLeftEarly(t *testing.T) {
	b := []byte{0x91, 0, 0x42, 0x08, 0xff}
	for _, order := range []int{0, 1, 2, 3, 4, 5} {
		want := wantAll(b, order)
		all := All(b, order)
		for many := range len(want) + 2 {
			var l []told
			for i, x := range all {
				if len(l) == many {
					break
				}
				l = append(l, told{i, x})
			}
			if !slices.Equal(l, want[:min(many, len(want))]) {
				t.Fatal(order, many, l)
			}
		}
		calls := 0
		all(func(int, uint64) bool {
			calls++
			return false
		})
		if calls != 1 {
			t.Error("it goes on when it is left", order, calls)
		}
		if l := gathered(all); !slices.Equal(l, want) {
			t.Error(order, l)
		}
	}
}

// P10.2: two that go through one iterator at a time, one inside the other, do not disturb each other.
func TestAllWithinAll(t *testing.T) {
	b := []byte{1, 0, 3, 255}
	want := wantAll(b, 1)
	all := All(b, 1)
	var outer []told
	for i, x := range all {
		outer = append(outer, told{i, x})
		if l := gathered(all); !slices.Equal(l, want) {
			t.Fatal(l)
		}
	}
	if !slices.Equal(outer, want) {
		t.Error(outer)
	}
}

// P10.2: the bytes are told as they are when All is called, whatever is written behind that, or meanwhile.
func TestAllOfBytesThatChange(t *testing.T) {
	for _, order := range allOrders() {
		b := bytes.Repeat([]byte{0, 0x21, 0, 0x80}, 6)
		want := wantAll(b, order)
		all := All(b, order)
		for i := range len(b) * 8 / wide(order) {
			if no := Set(b, order, i, 1); no != api.OK {
				t.Fatal(order, no)
			}
		}
		if l := gathered(all); !slices.Equal(l, want) {
			t.Error("changed behind the call", order, l)
		}
		clear(b)
		var l []told
		for i, x := range all {
			l = append(l, told{i, x})
			for k := range b {
				b[k]++
			}
		}
		if !slices.Equal(l, want) {
			t.Error("changed meanwhile", order, l)
		}
		for range All(make([]byte, 24), order) {
			t.Error("noughts are told", order)
		}
	}
}
