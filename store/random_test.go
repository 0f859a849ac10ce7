package store

import (
	"bytes"
	"math/rand"
	"testing"

	"palimpsest/api"
)

// pair is a store, and what it must be by the words.
type pair struct {
	s *Store
	w *words
}

func newPair(t *testing.T, fates ...api.Fate) *pair {
	t.Helper()
	s, e := New(fates...)
	if e != api.OK {
		t.Fatal(e)
	}
	return &pair{s, newWords(fates...)}
}

// places lie about where sectors begin, so that pieces come to lie over one another.
func somePlace(r *rand.Rand) int64 {
	return int64(r.Intn(5)*512 + []int{-2, -1, 0, 0, 0, 1, 2, 300}[r.Intn(8)])
}

func someBytes(r *rand.Rand) []byte {
	b := make([]byte, []int{0, 1, 2, 3, 511, 512, 513, 1024, 1030, 1536}[r.Intn(10)])
	if r.Intn(8) > 0 {
		x := byte(1 + r.Intn(255))
		for i := range b {
			b[i] = x + byte(i%3)
		}
	}
	return b
}

func someName(r *rand.Rand) string {
	return []string{"a", "b", "a", "b", "aa", "\xff", "B", "", "no\x00"}[r.Intn(9)]
}

func someFates(r *rand.Rand) []api.Fate {
	l := make([]api.Fate, r.Intn(3))
	for i := range l {
		l[i] = api.Fate{Kind: api.FateKind(r.Intn(3)), Keep: r.Intn(6) - 1}
	}
	return l
}

func somePicks(r *rand.Rand) []int {
	l := make([]int, r.Intn(9))
	for i := range l {
		l[i] = r.Intn(4)
	}
	return l
}

// do does one of the calls on both, and tells whether they answer the same.
func (p *pair) do(t *testing.T, r *rand.Rand) {
	t.Helper()
	name, at, b := someName(r), somePlace(r), someBytes(r)
	var have, want api.Errno
	kind := r.Intn(12)
	switch kind {
	case 0, 1:
		have, want = p.s.Create(name), p.w.create(name)
	case 2:
		have, want = p.s.Remove(name), p.w.remove(name)
	case 3, 4, 5, 6, 7:
		have, want = p.s.Write(name, at, b), p.w.write(name, at, b)
	case 8:
		have, want = p.s.Flush(name), p.w.flush(name)
	case 9, 10:
		have, want = p.s.Resize(name, at), p.w.resize(name, at)
	case 11:
		l := someFates(r)
		have = p.s.Feed(l...)
		p.w.fates = append(p.w.fates, l...)
	}
	if have != want {
		t.Fatalf("call %d of %q at %d with %d bytes: %v, want %v", kind, name, at, len(b), have, want)
	}
}

// readSome holds a read of a part against the words.
func (p *pair) readSome(t *testing.T, r *rand.Rand) {
	t.Helper()
	name, at, n := someName(r), somePlace(r), r.Intn(1100)-2
	b, e := p.s.Read(name, at, n)
	f := p.w.files[name]
	switch {
	case !wordsName(name):
		if e != api.ErrArg || b != nil {
			t.Fatalf("read of %q: %v %v", name, b, e)
		}
	case f == nil:
		if e != api.ErrNone || b != nil {
			t.Fatalf("read of %q: %v %v", name, b, e)
		}
	case at < 0 || at > int64(len(f.lasting)) || n < 0:
		if e != api.ErrRange || b != nil {
			t.Fatalf("read of %q at %d, %d: %v %v", name, at, n, b, e)
		}
	default:
		want := f.now()[at:]
		want = want[:min(n, len(want))]
		if e != api.OK || !bytes.Equal(b, want) {
			t.Fatalf("read of %q at %d, %d: %v %v, want %v", name, at, n, b, e, want)
		}
	}
}

// P6.1 to P6.5: whatever is called, the store is as the words say, and so is what a crash leaves of it.
func TestAgainstWords(t *testing.T) {
	for seed := range 1500 {
		r := rand.New(rand.NewSource(int64(seed)))
		p := newPair(t, someFates(r)...)
		for range 40 {
			p.do(t, r)
			p.readSome(t, r)
			hold(t, p.s, p.w)
			picks := somePicks(r)
			c, e := p.s.Crash(picks...)
			if e != api.OK {
				t.Fatal(e)
			}
			hold(t, c, p.w.crash(picks))
			hold(t, p.s, p.w)
		}
	}
}

// P6.5: a copy and what a crash leaves go on apart, each as the words say, and Same tells what the words tell.
func TestApart(t *testing.T) {
	for seed := range 500 {
		r := rand.New(rand.NewSource(int64(seed)))
		all := []*pair{newPair(t, someFates(r)...)}
		for range 60 {
			p := all[r.Intn(len(all))]
			if len(all) < 5 && r.Intn(6) == 0 {
				all = append(all, &pair{p.s.Copy(), p.w.copy()})
			}
			if len(all) < 5 && r.Intn(12) == 0 {
				picks := somePicks(r)
				c, _ := p.s.Crash(picks...)
				all = append(all, &pair{c, p.w.crash(picks)})
			}
			p.do(t, r)
			for _, x := range all {
				hold(t, x.s, x.w)
				if have, want := x.s.Same(p.s), x.w.same(p.w); have != want || p.s.Same(x.s) != want {
					t.Fatalf("seed %d: same %v, want %v", seed, have, want)
				}
			}
		}
	}
}
