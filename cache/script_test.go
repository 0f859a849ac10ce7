package cache

import (
	"bytes"
	"fmt"
	"math/rand"
	"slices"
	"strings"
	"testing"

	"palimpsest/api"
)

// both is a cache, and what it must be by the words, over stores that are alike.
func both(t *testing.T, bits, room int) (*Cache, *plain) {
	t.Helper()
	s, c := open(t, bits, room)
	return c, newPlain(s.Copy(), bits, room)
}

// P14.1 to P14.5: all scripts of four words about three pages that begin with a write, and all of three words, in room for one, two and three.
func TestAllSmallScripts(t *testing.T) {
	const deep = 4
	var words []string
	for p := range 3 {
		for _, kind := range "RWBDN" {
			words = append(words, fmt.Sprintf("%c%d", kind, p))
		}
		words = append(words, fmt.Sprintf("A%d%d", p, (p+1)%3), fmt.Sprintf("A%d%d", p, (p+2)%3))
	}
	words = append(words, "F")
	var further func(room int, script []string)
	further = func(room int, script []string) {
		c, w := both(t, 9, room)
		for _, word := range script {
			if have, should := do(c, word), do(w, word); have != should {
				t.Fatalf("room %d, %v: %v, want %v", room, script, have, should)
			}
		}
		said := fmt.Sprint("room ", room, ", ", script)
		alike(t, c, w, said)
		lean(t, c, w, said)
		if len(script) == deep {
			return
		}
		for _, word := range words {
			if len(script) < deep-1 || script[0][0] == 'W' {
				further(room, append(slices.Clone(script), word))
			}
		}
	}
	for room := 1; room <= 3; room++ {
		further(room, nil)
	}
}

// run is a cache and its words, that random calls change alike.
type run struct {
	t    *testing.T
	rand *rand.Rand
	c    *Cache
	w    *plain
	said []string
}

// page is one of few, seldom one that may not be.
func (r *run) page() int64 {
	if r.rand.Intn(60) == 0 {
		return []int64{-1, top >> r.w.bits, top, -top, 1 << 62}[r.rand.Intn(5)]
	}
	return int64(r.rand.Intn(7))
}

// part is a place and a length, mostly within a page.
func (r *run) part() (int, int) {
	long := r.w.long()
	if r.rand.Intn(2) == 0 {
		return 0, long
	}
	at := []int{0, 1, 511, 512, long - 1, long, r.rand.Intn(long)}[r.rand.Intn(7)]
	return at, r.rand.Intn(long - at + 2)
}

// same lets both do a call, and holds their answers against each other.
func (r *run) same(said string, call func(c desk) (string, api.Errno)) {
	r.t.Helper()
	r.said = append(r.said, said)
	have, no := call(r.c)
	should, wantNo := call(r.w)
	if have != should || no != wantNo {
		r.t.Fatalf("%v: %v, want %v (%d and %d bytes)", r.said, no, wantNo, len(have), len(should))
	}
}

// fed lets the next steps of both stores come to something.
func (r *run) fed() {
	fates := make([]api.Fate, r.rand.Intn(5))
	for i := range fates {
		fates[i] = api.Fate{Kind: api.FateKind(max(0, r.rand.Intn(5)-2)), Keep: r.rand.Intn(4)}
	}
	r.said = append(r.said, fmt.Sprint("fed ", fates))
	r.c.store.Feed(fates...)
	r.w.s.Feed(fates...)
}

// aside changes the file of both by others' hands.
func (r *run) aside() {
	size := []int64{0, 1, 511, 512, 700, 1024, 2048, 4000, 5000}[r.rand.Intn(9)]
	kind := r.rand.Intn(6)
	r.said = append(r.said, fmt.Sprint("aside ", kind, " ", size))
	for _, s := range []interface {
		Resize(string, int64) api.Errno
		Flush(string) api.Errno
		Remove(string) api.Errno
		Create(string) api.Errno
		Write(string, int64, []byte) api.Errno
	}{r.c.store, r.w.s} {
		switch kind {
		case 0, 1:
			s.Resize("f", size)
		case 2:
			s.Flush("f")
		case 3:
			s.Remove("f")
		case 4:
			s.Create("f")
		case 5:
			s.Write("f", size, []byte("aside"))
		}
	}
}

// step does one of the calls.
func (r *run) step(aside bool) {
	r.t.Helper()
	p, q := r.page(), r.page()
	at, n := r.part()
	switch kind := r.rand.Intn(21); kind {
	case 0, 1, 2:
		r.same(fmt.Sprintf("Read(%d, %d, %d)", p, at, n), func(c desk) (string, api.Errno) {
			b, no := c.Read(p, at, n)
			return string(b), no
		})
	case 3, 4, 5, 6, 7, 8:
		b := bytes.Repeat([]byte{byte(1 + r.rand.Intn(255))}, n)
		r.same(fmt.Sprintf("Write(%d, %d, %d)", p, at, n), func(c desk) (string, api.Errno) { return "", c.Write(p, at, b) })
	case 9, 10, 11, 12, 13:
		r.same(fmt.Sprintf("After(%d, %d)", p, q), func(c desk) (string, api.Errno) { return "", c.After(p, q) })
	case 14, 15:
		r.same(fmt.Sprintf("Back(%d)", p), func(c desk) (string, api.Errno) { return "", c.Back(p) })
	case 16:
		r.same("Flush", func(c desk) (string, api.Errno) { return "", c.Flush() })
	case 17:
		r.same(fmt.Sprintf("Drop(%d)", p), func(c desk) (string, api.Errno) { return "", c.Drop(p) })
	case 18:
		r.same(fmt.Sprintf("State(%d)", p), func(c desk) (string, api.Errno) {
			x, no := c.State(p)
			return fmt.Sprint(x), no
		})
	case 19:
		r.fed()
	case 20:
		if aside {
			r.aside()
		}
	}
}

// P14.1 to P14.5: many scripts, with steps that fail and files that others change.
func TestManyScripts(t *testing.T) {
	for seed := range 3000 {
		rng := rand.New(rand.NewSource(int64(seed)))
		c, w := both(t, 9+rng.Intn(3), 1+rng.Intn(6))
		r := &run{t: t, rand: rng, c: c, w: w}
		aside := rng.Intn(3) == 0
		for range 60 {
			r.step(aside)
			said := fmt.Sprintf("seed %d: %s", seed, strings.Join(r.said, " "))
			alike(t, c, w, said)
			lean(t, c, w, said)
		}
	}
}
