package cache

import (
	"bytes"
	"fmt"
	"iter"
	"slices"
	"strconv"
	"strings"
	"testing"

	"palimpsest/api"
	"palimpsest/store"
)

// top is the bound of a file, as the document says it.
const top = int64(268435456)

func want(t *testing.T, have, want api.Errno) {
	t.Helper()
	if have != want {
		t.Fatalf("%v, want %v", have, want)
	}
}

// gathered is all that an iterator tells.
func gathered(all iter.Seq[int64]) []int64 {
	var l []int64
	for x := range all {
		l = append(l, x)
	}
	return l
}

// filed is a store with a file f of 8 sectors, of A, B and so on, all of which last.
func filed(t *testing.T) *store.Store {
	t.Helper()
	s, _ := store.New()
	want(t, s.Create("f"), api.OK)
	for k := range 8 {
		want(t, s.Write("f", int64(512*k), bytes.Repeat([]byte{byte('A' + k)}, 512)), api.OK)
	}
	want(t, s.Flush("f"), api.OK)
	return s
}

// open is a cache over such a file.
func open(t *testing.T, bits, room int) (*store.Store, *Cache) {
	t.Helper()
	s := filed(t)
	c, no := New(s, "f", bits, room)
	if c == nil || no != api.OK {
		t.Fatal(c, no)
	}
	return s, c
}

// desk is what a script's words are done with: a cache, or what it must be by the chapter's words.
type desk interface {
	Read(page int64, at, n int) ([]byte, api.Errno)
	Write(page int64, at int, b []byte) api.Errno
	After(page, other int64) api.Errno
	Back(page int64) api.Errno
	Flush() api.Errno
	Drop(page int64) api.Errno
	State(page int64) (api.PageState, api.Errno)
	Pages() iter.Seq[int64]
	Counts() api.CacheCounts
	long() int
}

// do does what a word says, and tells the error: R3 reads page 3, W3x fills it with x, N3 writes no bytes to it, A31 lets 3 wait for 1, B3 writes 3 back, D3 drops it, F flushes.
func do(c desk, word string) api.Errno {
	var p, q int64
	if len(word) > 1 {
		p = int64(word[1] - '0')
	}
	switch word[0] {
	case 'R':
		_, no := c.Read(p, 0, 1)
		return no
	case 'W':
		x := byte('w')
		if len(word) > 2 {
			x = word[2]
		}
		return c.Write(p, 0, bytes.Repeat([]byte{x}, c.long()))
	case 'N':
		return c.Write(p, 0, nil)
	case 'A':
		q = int64(word[2] - '0')
		return c.After(p, q)
	case 'B':
		return c.Back(p)
	case 'D':
		return c.Drop(p)
	case 'F':
		return c.Flush()
	}
	panic("no word: " + word)
}

// long is how many bytes a page has.
func (c *Cache) long() int { return 1 << c.bits }

// done does all words of a script, which must all go.
func done(t *testing.T, c desk, script string) {
	t.Helper()
	for _, word := range strings.Fields(script) {
		if no := do(c, word); no != api.OK {
			t.Fatalf("%s of %q: %v", word, script, no)
		}
	}
}

// told is how pages 0 to 9 stand, those of which there is something to say: d dirty, p pending, k kept; behind < for whom one waits.
func told(t *testing.T, c desk) string {
	t.Helper()
	kept := gathered(c.Pages())
	var all []string
	for p := range int64(10) {
		x, no := c.State(p)
		want(t, no, api.OK)
		text := strconv.Itoa(int(p))
		if x.Dirty {
			text += "d"
		}
		if x.Pending {
			text += "p"
		}
		if slices.Contains(kept, p) {
			text += "k"
		}
		if len(x.Waits) > 0 {
			text += "<"
		}
		for _, w := range x.Waits {
			text += strconv.Itoa(int(w))
		}
		if len(text) > 1 {
			all = append(all, text)
		}
	}
	return strings.Join(all, " ")
}

// stands holds how pages stand against what is wanted.
func stands(t *testing.T, c desk, text string) {
	t.Helper()
	if have := told(t, c); have != text {
		t.Fatalf("pages stand %q, want %q", have, text)
	}
}

func counted(t *testing.T, c desk, hits, loads, backs, flushes int) {
	t.Helper()
	if have := c.Counts(); have != (api.CacheCounts{Hits: hits, Loads: loads, Backs: backs, Flushes: flushes}) {
		t.Fatalf("counts %v, want %v", have, []int{hits, loads, backs, flushes})
	}
}

// fails are k steps that go well, and one of that kind behind them.
func fails(k int, kind api.FateKind, keep int) []api.Fate {
	return append(make([]api.Fate, k), api.Fate{Kind: kind, Keep: keep})
}

// stepped tells the steps that the last word of a script takes, one by one: a page's number for its write, f for a flush. Each is seen by a step behind it that fails.
func stepped(t *testing.T, bits, room int, script string) string {
	t.Helper()
	words := strings.Fields(script)
	last := len(words) - 1
	var steps []string
	var was api.CacheCounts
	for k := 0; ; k++ {
		s, c := open(t, bits, room)
		done(t, c, strings.Join(words[:last], " "))
		if k == 0 {
			was = c.Counts()
		}
		begun, _ := s.Steps()
		want(t, s.Feed(fails(k, api.FateFail, 0)...), api.OK)
		no := do(c, words[last])
		now := c.Counts()
		switch {
		case now.Flushes > was.Flushes && s.Pending() == 0:
			steps = append(steps, "f")
		case now.Backs > was.Backs:
			var place int64
			for p := range s.Pieces("f") {
				place = p.At
			}
			steps = append(steps, fmt.Sprint(place>>bits))
		}
		was = now
		if no == api.OK {
			if ended, _ := s.Steps(); ended-begun != k || len(steps) != k {
				t.Fatalf("%q: %d steps, seen are %v", script, ended-begun, steps)
			}
			return strings.Join(steps, " ")
		}
		want(t, no, api.ErrDisk)
	}
}
