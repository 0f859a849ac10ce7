package cache

import (
	"fmt"
	"math/rand"
	"slices"
	"strings"
	"testing"

	"palimpsest/api"
	"palimpsest/stops"
	"palimpsest/store"
)

// tale is a cache over a file of noughts, whose pages are filled with versions, each greater than all before, and what must hold of whatever a crash leaves.
type tale struct {
	t       *testing.T
	s       *store.Store
	c       *Cache
	said    string
	version byte
	rules   []rule
}

// rule: if a sector of the page has the version since or a later one, each sector of the other one has what it had, or a later one.
type rule struct {
	page, other int64
	since       byte
	had         []byte
}

// begun is a tale at its beginning, whose steps have these fates.
func begun(t *testing.T, bits, room int, said string, fates ...api.Fate) *tale {
	t.Helper()
	s, _ := store.New()
	want(t, s.Create("f"), api.OK)
	want(t, s.Resize("f", 16384), api.OK)
	want(t, s.Feed(fates...), api.OK)
	c, no := New(s, "f", bits, room)
	want(t, no, api.OK)
	return &tale{t: t, s: s, c: c, said: said}
}

// sectors are the versions of a page's sectors in a store's file.
func (x *tale) sectors(s *store.Store, page int64) []byte {
	long := x.c.long()
	b, _ := s.Read("f", page*int64(long), long)
	return firsts(b)
}

func firsts(b []byte) []byte {
	var l []byte
	for sector := range slices.Chunk(b, 512) {
		l = append(l, sector[0])
	}
	return l
}

// now are the versions of a page's sectors as it is read.
func (x *tale) now(page int64) []byte {
	if p := x.c.pages[page]; p != nil && p.kept() {
		return firsts(p.bytes)
	}
	return x.sectors(x.s, page)
}

// do does a word of a script, as the rules are told by the words alone.
func (x *tale) do(word string) api.Errno {
	x.t.Helper()
	page := int64(0)
	if len(word) > 1 {
		page = int64(word[1] - '0')
	}
	was, _ := x.c.State(page)
	if word[0] == 'W' {
		x.version++
		return x.c.Write(page, 0, slices.Repeat([]byte{x.version}, x.c.long()))
	}
	no := do(x.c, word)
	switch {
	case no != api.OK:
	case word[0] == 'A':
		x.after(page, int64(word[2]-'0'), was.Dirty)
	case word[0] == 'D':
		x.drop(page, was)
	}
	return no
}

// after adds a rule, if one waits for the other.
func (x *tale) after(page, other int64, dirty bool) {
	if now, _ := x.c.State(page); !slices.Contains(now.Waits, other) {
		return
	}
	since := x.version + 1
	// Of one that is dirty, what it has now is written later, if no part of it was.
	if v := slices.Max(x.now(page)); dirty && !slices.Contains(x.sectors(x.s, page), v) {
		since = v
	}
	x.rules = append(x.rules, rule{page, other, since, x.now(other)})
}

// drop takes rules away for a page that waits for none any more, and that is waited for no more or for less.
func (x *tale) drop(page int64, was api.PageState) {
	x.rules = slices.DeleteFunc(x.rules, func(r rule) bool {
		return r.page == page || r.other == page && was.Dirty && !was.Pending
	})
	for _, r := range x.rules {
		for i, v := range x.sectors(x.s, page) {
			if r.other == page {
				r.had[i] = min(r.had[i], v)
			}
		}
	}
}

// holds holds all rules against what one crash leaves.
func (x *tale) holds(left *store.Store) {
	x.t.Helper()
	for _, r := range x.rules {
		if slices.Max(x.sectors(left, r.page)) < r.since {
			continue
		}
		for i, v := range x.sectors(left, r.other) {
			if v < r.had[i] {
				x.t.Fatalf("%s: page %d is there, page %d, which it waited for, is not: %d, want %d", x.said, r.page, r.other, v, r.had[i])
			}
		}
	}
}

// crashes holds all rules against what crashes leave: by all ways, if there are few.
func (x *tale) crashes(few int) {
	x.t.Helper()
	if len(x.rules) == 0 {
		return
	}
	if x.s.Pending() <= few {
		for _, left := range stops.Images(x.s) {
			x.holds(left)
		}
		return
	}
	list, no := stops.Some(x.s, uint64(x.version), 1<<few)
	want(x.t, no, api.OK)
	for _, way := range list {
		left, _ := x.s.Crash(way...)
		x.holds(left)
	}
}

// behindEach runs a script as often as it takes steps, each time with one of them failing in part, and lets a crash come behind each call.
func behindEach(t *testing.T, bits, room, few int, script []string) {
	t.Helper()
	whole := begun(t, bits, room, "")
	for _, word := range script {
		whole.do(word)
	}
	steps, _ := whole.s.Steps()
	for k := range steps {
		for keep := range 1 << (bits - 9) {
			x := begun(t, bits, room, fmt.Sprint("Bits ", bits, ", room ", room, ", ", script, ", step ", k, " fails, keeps ", keep), fails(k, api.FateFail, keep)...)
			for _, word := range script {
				x.do(word)
				x.crashes(few)
			}
		}
	}
}

// P14.5: all scripts of three words about three pages that are dirty, flushed at the end; behind each step a crash, by all ways of it.
func TestCrashSmallScripts(t *testing.T) {
	var words []string
	for p := range 3 {
		words = append(words, fmt.Sprintf("W%d", p), fmt.Sprintf("B%d", p), fmt.Sprintf("A%d%d", p, (p+1)%3), fmt.Sprintf("A%d%d", p, (p+2)%3))
	}
	for _, a := range words {
		for _, b := range words {
			for _, c := range words {
				if a[0] == 'A' || b[0] == 'A' || c[0] == 'A' {
					behindEach(t, 9, 3, 6, []string{"W0", "W1", "W2", a, b, c, "F"})
				}
			}
		}
	}
}

// P14.5: pages of two sectors, and pages that are let go; behind each step a crash, by all ways of it.
func TestCrashChosenScripts(t *testing.T) {
	for _, x := range []struct {
		room   int
		script string
	}{
		{4, "W0 W1 A01 B0 F"}, {4, "W0 W1 A01 B1 W1 B0 F"}, {4, "W0 W1 W2 A01 A12 B0 F"}, {4, "W0 W1 B1 A01 B0 W1 A10 W0 B1"},
		{2, "W0 W1 A01 W2 A20 R3 F"}, {1, "W0 W1 A01 W0 A10 W1 W0"}, {1, "W0 A10 W1 A21 W2 A02 W0 F"}, {2, "W0 W1 A10 W2 A21 W3 A32 R0 R4"},
		{4, "W0 W1 A01 B1 W1 D1 B0"}, {4, "W0 W1 A01 B0 W0 W1 A01 B0"}, {4, "W0 B0 W1 A01 W0 B0 D0 W0 B0"}, {3, "R0 W1 A01 W0 W2 A12 R4 R5"},
	} {
		behindEach(t, 10, x.room, 9, strings.Fields(x.script))
	}
}

// P14.5: many scripts, with pages that are let go and dropped, and several steps that fail.
func TestCrashManyScripts(t *testing.T) {
	rules := 0
	for seed := range 400 {
		r := rand.New(rand.NewSource(int64(seed)))
		x := begun(t, 9+r.Intn(2), 1+r.Intn(4), "")
		for range 40 {
			if r.Intn(6) == 0 {
				want(t, x.s.Feed(fails(r.Intn(3), api.FateFail, r.Intn(3))...), api.OK)
			}
			word := fmt.Sprintf("%c%d%d", "WWWWRNBBAAAAADF"[r.Intn(15)], r.Intn(5), r.Intn(5))
			x.said += " " + word
			x.do(word)
			x.crashes(5)
		}
		rules += len(x.rules)
	}
	if rules < 400 {
		t.Error("few pages waited:", rules)
	}
}

// P14.5: what a page that waits for none leaves is held by nothing: without After the rules would not hold.
func TestCrashWithoutAfter(t *testing.T) {
	x := begun(t, 9, 2, "")
	for _, word := range strings.Fields("W0 W1 B1 B0") {
		want(t, x.do(word), api.OK)
	}
	var seen []string
	for _, left := range stops.Images(x.s) {
		seen = append(seen, fmt.Sprint(x.sectors(left, 0), x.sectors(left, 1)))
	}
	if !slices.Contains(seen, "[1] [0]") || len(seen) != 4 {
		t.Error(seen)
	}
}

// P14.5: behind a Flush that went well each crash leaves all that was written.
func TestCrashBehindFlush(t *testing.T) {
	for seed := range 200 {
		r := rand.New(rand.NewSource(int64(seed)))
		x := begun(t, 9+r.Intn(2), 1+r.Intn(4), "")
		is := map[int64]byte{}
		for range 30 {
			word := fmt.Sprintf("%c%d%d", "WWWWRNBAAA"[r.Intn(10)], r.Intn(5), r.Intn(5))
			if r.Intn(5) == 0 {
				want(t, x.s.Feed(fails(r.Intn(3), api.FateFull, r.Intn(3))...), api.OK)
			}
			if x.do(word) == api.OK && word[0] == 'W' {
				is[int64(word[1]-'0')] = x.version
			}
		}
		for x.c.Flush() != api.OK {
		}
		if x.s.Pending() != 0 {
			t.Fatal(x.s.Pending())
		}
		left, _ := x.s.Crash()
		for page := range int64(5) {
			should := slices.Repeat([]byte{is[page]}, x.c.long()/512)
			if have := x.sectors(left, page); !slices.Equal(have, should) {
				t.Fatalf("seed %d: page %d is %v, want %v", seed, page, have, should)
			}
			if b, no := x.c.Read(page, 0, x.c.long()); no != api.OK || !slices.Equal(firsts(b), should) {
				t.Fatalf("seed %d: page %d reads %v, want %v", seed, page, firsts(b), should)
			}
		}
	}
}
