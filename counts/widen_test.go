package counts

import (
	"bytes"
	"math/rand"
	"slices"
	"testing"

	"palimpsest/api"
)

// wantWiden is what Widen must tell: as many counts as there are, each put into noughts.
func wantWiden(b []byte, order, to int) ([]byte, api.Errno) {
	l := listed(b, order)
	bits := len(l) * wide(to)
	long := bits / 8
	if bits%8 != 0 {
		long++
	}
	out := make([]byte, long)
	for i, x := range l {
		if x > greatest[to] {
			return nil, api.ErrLong
		}
		out = put(out, to, i, x)
	}
	return out, api.OK
}

// heldWiden holds Widen against the words; the bytes stay, and the answer is memory of its own.
func heldWiden(t *testing.T, b []byte, order, to int) ([]byte, api.Errno) {
	t.Helper()
	short, whole := roomy(b)
	was := bytes.Clone(whole)
	want, no := wantWiden(b, order, to)
	w, told := Widen(short, order, to)
	if !bytes.Equal(w, want) || told != no {
		t.Fatalf("Widen(%v, %d, %d): %v %v, want %v %v", b, order, to, w, told, want, no)
	}
	answer := bytes.Clone(w)
	for i := range w {
		w[i] ^= 255
	}
	if !bytes.Equal(whole, was) {
		t.Fatalf("Widen(%v, %d, %d) changed the bytes, or shares them", b, order, to)
	}
	return answer, told
}

// P10.3: Widen by rows.
func TestWidenRows(t *testing.T) {
	for _, r := range []struct {
		b         []byte
		order, to int
		want      []byte
		no        api.Errno
	}{
		{nil, 0, 6, nil, api.OK},
		{[]byte{}, 6, 0, nil, api.OK},
		{[]byte{0xff}, 4, 5, nil, api.OK},             // fewer bytes than one count has
		{[]byte{0xff, 0xff, 0xff}, 5, 0, nil, api.OK}, // likewise
		{[]byte{1, 2, 3}, 4, 4, []byte{1, 2}, api.OK}, // what is left over is no count
		{[]byte{1, 2, 3}, 4, 5, []byte{1, 2, 0, 0}, api.OK},
		{[]byte{1, 0, 3}, 4, 0, []byte{1}, api.OK}, // one count, its byte's last bits noughts
		{[]byte{2, 0, 3}, 4, 0, nil, api.ErrLong},
		{[]byte{1, 0, 1}, 3, 0, []byte{5}, api.OK},             // three counts of one bit
		{[]byte{3, 0, 2}, 3, 1, []byte{0x23}, api.OK},          // three of two bits
		{[]byte{3, 0, 2, 1, 2}, 3, 1, []byte{0x63, 2}, api.OK}, // five of two bits
		{[]byte{15, 1, 2}, 3, 2, []byte{0x1f, 2}, api.OK},
		{[]byte{16, 1, 2}, 3, 2, nil, api.ErrLong}, // the first does not fit
		{[]byte{1, 2, 16}, 3, 2, nil, api.ErrLong}, // the last one does not
		{[]byte{0xff}, 0, 1, []byte{0x55, 0x55}, api.OK},
		{[]byte{0x81}, 0, 3, []byte{1, 0, 0, 0, 0, 0, 0, 1}, api.OK},
		{[]byte{0xff, 0xff}, 4, 6, []byte{0xff, 0xff, 7: 0}, api.OK},
		{bytes.Repeat([]byte{255}, 8), 6, 6, bytes.Repeat([]byte{255}, 8), api.OK},
		{bytes.Repeat([]byte{255}, 8), 6, 5, nil, api.ErrLong},
		{[]byte{255, 255, 255, 255, 7: 0}, 6, 5, []byte{255, 255, 255, 255}, api.OK},
	} {
		if w, no := Widen(r.b, r.order, r.to); !bytes.Equal(w, r.want) || no != r.no {
			t.Errorf("Widen(%v, %d, %d): %v %v, want %v %v", r.b, r.order, r.to, w, no, r.want, r.no)
		}
		heldWiden(t, r.b, r.order, r.to)
	}
}

// P10.3: bytes of each length that are drawn, from each order to each.
func TestWidenDrawn(t *testing.T) {
	r := rand.New(rand.NewSource(107))
	for _, order := range allOrders() {
		for _, to := range allOrders() {
			for long := range 20 {
				heldWiden(t, drawn(r, long), order, to)
				heldWiden(t, make([]byte, long), order, to)
			}
		}
	}
}

// P10.3: counts that just fit the other width, and one that does not, at each place.
func TestWidenToNarrower(t *testing.T) {
	for _, order := range allOrders() {
		for to := range order {
			b := make([]byte, 5*wide(order)/8+1)
			many := len(b) * 8 / wide(order)
			for i := range many {
				b = put(b, order, i, greatest[to])
			}
			if _, no := heldWiden(t, b, order, to); no != api.OK {
				t.Error("counts that fit are refused", order, to, no)
			}
			for i := range many {
				for _, x := range []uint64{greatest[to] + 1, greatest[order]} {
					if _, no := heldWiden(t, put(b, order, i, x), order, to); no != api.ErrLong {
						t.Error("a count that does not fit", order, to, i, no)
					}
				}
			}
		}
	}
}

// P10.4: to a wider one and back are the same counts; so is it to a narrower one and back, if they fit.
func TestWidenThereAndBack(t *testing.T) {
	r := rand.New(rand.NewSource(108))
	for _, order := range allOrders() {
		for _, to := range allOrders() {
			for range 20 {
				b := make([]byte, r.Intn(40))
				for i := range len(b) * 8 / wide(order) {
					b = put(b, order, i, r.Uint64()&greatest[min(order, to)])
				}
				w, no := heldWiden(t, b, order, to)
				if no != api.OK {
					t.Fatal(order, to, no)
				}
				back, no := Widen(w, to, order)
				if no != api.OK {
					t.Fatal(order, to, no)
				}
				was := listed(b, order)
				// A byte of noughts at the end may have room for more counts, which are 0.
				if l := listed(back, order); len(l) < len(was) || !slices.Equal(l[:len(was)], was) || slices.Max(append(l[len(was):], 0)) != 0 {
					t.Fatal(order, to, was, l)
				}
			}
		}
	}
}

// P10.3: Widen of what it told, once more, is the same anew.
func TestWidenTwice(t *testing.T) {
	b := []byte{1, 2, 3, 4}
	first, _ := Widen(b, 3, 5)
	clear(first)
	if w, no := Widen(b, 3, 5); !bytes.Equal(w, []byte{1, 0, 0, 0, 2, 0, 0, 0, 3, 0, 0, 0, 4, 0, 0, 0}) || no != api.OK {
		t.Error(w, no)
	}
}
