package cache

import (
	"slices"
	"strings"
	"testing"

	"palimpsest/api"
)

// P14.4: how pages stand, and the counts, behind each call of the chapter's examples and of more.
func TestTellsAtEach(t *testing.T) {
	s, c := open(t, 9, 2)
	for _, x := range []struct {
		word   string
		no     api.Errno
		is     string
		counts api.CacheCounts
	}{
		{"W0a", api.OK, "0dk", api.CacheCounts{Loads: 1}},
		{"W1b", api.OK, "0dk 1dk", api.CacheCounts{Loads: 2}},
		{"A01", api.OK, "0dk<1 1dk", api.CacheCounts{Loads: 2}},
		{"A10", api.ErrLoop, "0dk<1 1dk", api.CacheCounts{Loads: 2}},
		{"B0", api.OK, "0pk 1k", api.CacheCounts{Loads: 2, Backs: 2, Flushes: 1}},
		{"R2", api.OK, "0p 1k 2k", api.CacheCounts{Loads: 3, Backs: 2, Flushes: 1}},
		{"R9", api.OK, "0p 2k 9k", api.CacheCounts{Loads: 4, Backs: 2, Flushes: 1}},
		{"B1", api.ErrNone, "0p 2k 9k", api.CacheCounts{Loads: 4, Backs: 2, Flushes: 1}},
		{"N2", api.OK, "0p 2k 9k", api.CacheCounts{Hits: 1, Loads: 4, Backs: 2, Flushes: 1}},
		{"W2c", api.OK, "0p 2dk 9k", api.CacheCounts{Hits: 2, Loads: 4, Backs: 2, Flushes: 1}},
		{"R2", api.OK, "0p 2dk 9k", api.CacheCounts{Hits: 3, Loads: 4, Backs: 2, Flushes: 1}},
		{"A20", api.OK, "0p 2dk<0 9k", api.CacheCounts{Hits: 3, Loads: 4, Backs: 2, Flushes: 1}},
		{"W0d", api.OK, "0dpk 2dk<0", api.CacheCounts{Hits: 3, Loads: 5, Backs: 2, Flushes: 1}},
		{"D9", api.ErrNone, "0dpk 2dk<0", api.CacheCounts{Hits: 3, Loads: 5, Backs: 2, Flushes: 1}},
		{"B2", api.OK, "0k 2pk", api.CacheCounts{Hits: 3, Loads: 5, Backs: 4, Flushes: 2}},
		{"B2", api.OK, "0k 2pk", api.CacheCounts{Hits: 3, Loads: 5, Backs: 4, Flushes: 2}},
		{"D2", api.OK, "0k 2p", api.CacheCounts{Hits: 3, Loads: 5, Backs: 4, Flushes: 2}},
		{"F", api.OK, "0k", api.CacheCounts{Hits: 3, Loads: 5, Backs: 4, Flushes: 3}},
		{"F", api.OK, "0k", api.CacheCounts{Hits: 3, Loads: 5, Backs: 4, Flushes: 4}},
	} {
		want(t, do(c, x.word), x.no)
		stands(t, c, x.is)
		if c.Counts() != x.counts {
			t.Fatalf("%s: %v, want %v", x.word, c.Counts(), x.counts)
		}
	}
	if b, _ := s.Read("f", 0, 1536); string(b) != strings.Repeat("d", 512)+strings.Repeat("b", 512)+strings.Repeat("c", 512) {
		t.Errorf("%q", b)
	}
}

// P14.4: State and Pages use no page, bring none in, and take no step.
func TestTellingChangesNothing(t *testing.T) {
	s, c := open(t, 9, 2)
	done(t, c, "W0 R1")
	steps, _ := s.Steps()
	for range 3 {
		for page := range int64(20) {
			_, no := c.State(page)
			want(t, no, api.OK)
		}
		gathered(c.Pages())
	}
	counted(t, c, 0, 2, 0, 0)
	done(t, c, "R1 W0")
	for page := range int64(2) {
		c.State(page)
	}
	done(t, c, "B0 R2")
	stands(t, c, "0pk 2k")
	if now, _ := s.Steps(); now != steps+1 {
		t.Error(now - steps)
	}
}

// P14.4: for whom a page waits is told in new memory, and as it is then.
func TestStateIsNewMemory(t *testing.T) {
	_, c := open(t, 9, 4)
	done(t, c, "W0 W1 W2 A02 A01")
	x, _ := c.State(0)
	y, _ := c.State(0)
	x.Waits[0], x.Waits[1] = 7, 8
	_ = append(x.Waits[:1], 9)
	if !slices.Equal(y.Waits, []int64{1, 2}) {
		t.Error(y)
	}
	stands(t, c, "0dk<12 1dk 2dk")
	done(t, c, "F")
	if !slices.Equal(y.Waits, []int64{1, 2}) {
		t.Error(y)
	}
	if x, _ := c.State(0); len(x.Waits) != 0 {
		t.Error(x)
	}
}

// P14.4: Pages tells rising pages, as they are when the call is made; it may be left at any time, gone over again, and within itself.
func TestPages(t *testing.T) {
	_, c := open(t, 9, 4)
	if all := c.Pages(); all == nil || gathered(all) != nil {
		t.Error("pages of an empty one")
	}
	done(t, c, "R7 W2 R9 W0")
	all := c.Pages()
	should := []int64{0, 2, 7, 9}
	for many := range 6 {
		var l []int64
		for page := range all {
			if len(l) == many {
				break
			}
			l = append(l, page)
			if inner := gathered(all); !slices.Equal(inner, should) {
				t.Error("within itself", inner)
			}
		}
		if !slices.Equal(l, should[:min(many, 4)]) {
			t.Error(many, l)
		}
	}
	done(t, c, "D9 R1 R3 F")
	if l := gathered(all); !slices.Equal(l, should) {
		t.Error(l)
	}
	if l := gathered(c.Pages()); !slices.Equal(l, []int64{0, 1, 2, 3}) {
		t.Error(l)
	}
	// Pages may come and go while they are gone over.
	for page := range c.Pages() {
		want(t, c.Drop(page), api.OK)
	}
	stands(t, c, "")
}

// P14.4: Counts tells what went well alone.
func TestCountsOfFaults(t *testing.T) {
	s, c := open(t, 9, 2)
	done(t, c, "W0 W1")
	fail := api.Fate{Kind: api.FateFail, Keep: 9}
	want(t, s.Feed(fail, fail, api.Fate{}, fail, api.Fate{}, api.Fate{}), api.OK)
	for i, x := range []struct {
		word           string
		no             api.Errno
		backs, flushes int
	}{
		{"B0", api.ErrDisk, 0, 0}, {"R2", api.ErrDisk, 0, 0}, {"F", api.ErrDisk, 1, 0}, {"F", api.OK, 2, 1},
	} {
		if no := do(c, x.word); no != x.no {
			t.Fatal(i, no)
		}
		counted(t, c, 0, 2, x.backs, x.flushes)
	}
	stands(t, c, "0k 1k")
}
