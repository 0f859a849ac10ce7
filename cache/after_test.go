package cache

import (
	"fmt"
	"slices"
	"strings"
	"testing"

	"palimpsest/api"
)

// P14.2: After of pages that are dirty, pending, both, neither, kept or not; each way of waiting ends by its own means.
func TestAfter(t *testing.T) {
	for _, x := range []struct {
		room       int
		script, is string
	}{
		// The other one is dirty, pending, both.
		{4, "W0 W1 A01", "0dk<1 1dk"},
		{4, "W0 W1 B1 A01", "0dk<1 1pk"},
		{4, "W0 W1 B1 W1 A01", "0dk<1 1dpk"},
		// It is neither: it is not waited for, not even when it is dirty later.
		{4, "W0 A01", "0dk"},
		{4, "W0 R1 A01", "0dk 1k"},
		{4, "W0 R1 A01 W1", "0dk 1dk"},
		{4, "W0 W1 F W0 A01 W1", "0dk 1dk"},
		{4, "W0 W1 D1 A01", "0dk"},
		{4, "A01", ""},
		{4, "A01 W1 W0", "0dk 1dk"},
		// The page is kept and not dirty, pending, not kept.
		{4, "R0 W1 A01", "0k<1 1dk"},
		{4, "W0 B0 W1 A01", "0pk<1 1dk"},
		{4, "W1 A01", "0<1 1dk"},
		{4, "W1 A01 W0", "0dk<1 1dk"},
		// The other one is pending, and not kept; so are both.
		{1, "W1 W0 A01", "0dk<1 1p"},
		{1, "W0 W1 R2 A01 A41", "0p<1 1p 2k 4<1"},
		// Several, told rising, each once.
		{6, "W5 W3 W1 W0 A05 A01 A03 A01", "0dk<135 1dk 3dk 5dk"},
		{6, "W0 W1 W2 W3 A01 A12 A23 A03 A13", "0dk<13 1dk<23 2dk<3 3dk"},
		// Neither is used: the first one is let go all the same.
		{2, "W0 W1 F W1 A01 R2", "0<1 1dk 2k"},
		{2, "R0 W1 A01 A21 R2", "0<1 1dk 2k<1"},
		// It ends when the other one is neither dirty nor pending, whatever comes then.
		{4, "W0 W1 A01 B1", "0dk<1 1pk"},
		{4, "W0 W1 A01 B1 W1", "0dk<1 1dpk"},
		{4, "W2 W3 A23 W0 W1 A01 B1 W1 B2", "0dk<1 1dk 2pk 3k"},
		{4, "W2 W3 A23 W0 W1 A01 B1 B2 W1", "0dk 1dk 2pk 3k"},
		{4, "W0 W1 A01 D1", "0dk"},
		{4, "W0 W1 A01 D1 W1", "0dk 1dk"},
		{4, "W0 W1 A01 B1 W1 D1", "0dk<1 1p"},
		{4, "W0 W1 A01 B1 D1", "0dk<1 1p"},
		{4, "W1 A01 A21 F", "1k"},
		// It ends when the page was written itself, or is dropped.
		{4, "W0 W1 A01 B0", "0pk 1k"},
		{4, "W0 W1 A01 B0 W0", "0dpk 1k"},
		{4, "W0 W1 A01 D0", "1dk"},
		{4, "W0 W1 A01 D0 W0", "0dk 1dk"},
		{4, "W0 W1 W2 A01 A12 D1", "0dk 2dk"},
		// It does not end when the page is let go.
		{1, "W1 A01 R0 R2", "0<1 1p 2k"},
		{1, "W1 A01 R0 R2 W0", "0dk<1 1p"},
	} {
		_, c := open(t, 9, x.room)
		done(t, c, x.script)
		if have := told(t, c); have != x.is {
			t.Errorf("room %d, %s: %q, want %q", x.room, x.script, have, x.is)
		}
	}
}

// P14.2: the other one is the page, or waits for it by one step, by several: that is a loop, ahead of whether it is dirty; nothing has changed.
func TestAfterLoops(t *testing.T) {
	for _, x := range []struct{ script, word, is string }{
		{"", "A00", ""}, {"W0", "A00", "0dk"}, {"R0", "A00", "0k"}, {"W0 B0", "A00", "0pk"},
		{"W0 W1 A01", "A10", "0dk<1 1dk"},
		{"W0 W1 B1 A01", "A10", "0dk<1 1pk"},
		{"W0 W1 W2 A01 A12", "A20", "0dk<1 1dk<2 2dk"},
		{"W0 W1 W2 A12 A01", "A20", "0dk<1 1dk<2 2dk"},
		{"W0 W1 W2 W3 A01 A12 A23", "A30", "0dk<1 1dk<2 2dk<3 3dk"},
		{"W0 W1 W2 W3 A01 A12 A23", "A31", "0dk<1 1dk<2 2dk<3 3dk"},
		{"W0 W1 W2 W3 A01 A02 A13 A23", "A30", "0dk<12 1dk<3 2dk<3 3dk"},
		{"W0 W1 W2 W3 A02 A03 A01 A14 A15", "A10", "0dk<123 1dk 2dk 3dk"},
		// The one that waits is not dirty, or not even kept.
		{"R0 W1 A01", "A10", "0k<1 1dk"},
		{"W1 A01", "A10", "0<1 1dk"},
		{"W1 W2 A01 A12", "A20", "0<1 1dk<2 2dk"},
	} {
		_, c := open(t, 9, 6)
		done(t, c, x.script)
		counts := c.Counts()
		if no := do(c, x.word); no != api.ErrLoop {
			t.Errorf("%s: %s %v", x.script, x.word, no)
		}
		if have := told(t, c); have != x.is || c.Counts() != counts {
			t.Errorf("%s: %q, want %q", x.script, have, x.is)
		}
	}
}

// P14.2: what is no loop any more goes, as does what was none though many wait.
func TestAfterNoLoop(t *testing.T) {
	for _, x := range []struct{ script, is string }{
		{"W0 W1 A01 B0 W0 A10", "0dpk 1k<0"},
		{"W0 W1 A01 D0 W0 A10", "0dk 1dk<0"},
		{"W0 W1 A01 D1 W1 A10", "0dk 1dk<0"},
		{"W0 W1 W2 A01 A12 D1 W1 A20", "0dk 1dk 2dk<0"},
		{"W0 W1 W2 W3 A01 A02 A13 A23 A12", "0dk<12 1dk<23 2dk<3 3dk"},
		{"W0 W1 W2 W3 A01 A23 A13 A03 A20", "0dk<13 1dk<3 2dk<03 3dk"},
		// One that waits for the page is no matter if the other one does not.
		{"W0 W1 W2 A20 A01", "0dk<1 1dk 2dk<0"},
		{"W0 W1 A01 F A10 A01", "0k 1k"},
	} {
		_, c := open(t, 9, 6)
		done(t, c, x.script)
		if have := told(t, c); have != x.is {
			t.Errorf("%s: %q, want %q", x.script, have, x.is)
		}
	}
}

// P14.2: all ways in which four dirty pages may wait: by each further After, which is refused if and only if it closes a loop.
func TestAfterAllWays(t *testing.T) {
	for bits := range 1 << 12 {
		_, c := open(t, 9, 4)
		w := newPlain(c.store.Copy(), 9, 4)
		var script []string
		for k := range 12 {
			if bits>>k&1 == 1 {
				script = append(script, fmt.Sprintf("A%d%d", k/3, []int{1, 2, 3, 0, 2, 3, 0, 1, 3, 0, 1, 2}[k]))
			}
		}
		// One order is as good as another one; this one lets loops close at either end.
		for i := range script {
			if i%2 == 1 {
				script[0], script[i] = script[i], script[0]
			}
		}
		for _, word := range append(strings.Fields("W0 W1 W2 W3"), script...) {
			if have, should := do(c, word), do(w, word); have != should {
				t.Fatalf("%v: %s %v, want %v", script, word, have, should)
			}
		}
		alike(t, c, w, fmt.Sprint(script))
		want(t, c.Flush(), api.OK)
		want(t, w.Flush(), api.OK)
		alike(t, c, w, fmt.Sprint(script))
	}
}

// P14.2: a row of many pages that wait one for the other, made from either end, is gone down from its beginning to its end.
func TestAfterLongRow(t *testing.T) {
	const n = int64(1 << 16)
	for _, up := range []bool{false, true} {
		_, c := open(t, 9, 1)
		for page := range n + 1 {
			want(t, c.Write(page, 0, []byte("a")), api.OK)
		}
		for i := range n - 1 {
			page := i
			if up {
				page = n - 2 - i
			}
			if no := c.After(page, page+1); no != api.OK {
				t.Fatal(page, no)
			}
		}
		want(t, c.After(n-1, 0), api.ErrLoop)
		want(t, c.After(n-1, n-2), api.ErrLoop)
		want(t, c.After(0, n-1), api.OK)
		if x, no := c.State(0); !slices.Equal(x.Waits, []int64{1, n - 1}) || no != api.OK {
			t.Error(x, no)
		}
		want(t, c.Flush(), api.OK)
		if x, no := c.State(0); x.Waits != nil || no != api.OK || len(c.pages) != 1 {
			t.Error(x, no, len(c.pages))
		}
	}
}

// P14.2: where very many ways lead from one page to another, the search ends all the same.
func TestAfterManyWays(t *testing.T) {
	const layers, wide = 60, 3
	_, c := open(t, 9, 1024)
	page := func(layer, k int) int64 { return int64(layer*wide + k) }
	for layer := range layers {
		for k := range wide {
			want(t, c.Write(page(layer, k), 0, []byte("a")), api.OK)
		}
	}
	for layer := range layers - 1 {
		for k := range wide * wide {
			want(t, c.After(page(layer, k/wide), page(layer+1, k%wide)), api.OK)
		}
	}
	want(t, c.After(page(0, 0), page(0, 1)), api.OK)
	want(t, c.After(page(0, 1), page(0, 0)), api.ErrLoop)
	want(t, c.After(page(layers-1, 2), page(0, 0)), api.ErrLoop)
	want(t, c.After(page(layers-1, 2), page(layers-1, 1)), api.OK)
	// One that is waited for, though none of these leads to it: all of them are gone through.
	apart, further := page(layers, 0), page(layers, 1)
	want(t, c.Write(apart, 0, []byte("a")), api.OK)
	want(t, c.After(further, apart), api.OK)
	want(t, c.After(apart, page(0, 0)), api.OK)
	want(t, c.After(page(layers-1, 2), further), api.ErrLoop)
	want(t, c.Back(page(0, 0)), api.OK)
	counted(t, c, 0, layers*wide+1, (layers-1)*wide+2, layers+1)
}
