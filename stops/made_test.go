package stops

import (
	"slices"
	"testing"

	"palimpsest/api"
	"palimpsest/store"
)

// spot is where a piece of one byte lies.
type spot struct {
	name string
	at   int64
}

// holds is a store, and its pieces in the order in which a crash picks them.
type holds struct {
	s     *store.Store
	spots []spot
}

func want(t *testing.T, have, e api.Errno) {
	t.Helper()
	if have != e {
		t.Fatalf("%v, want %v", have, e)
	}
}

// made is a store with one file of n pieces, each of one byte that no other one lies over, so that no two ways leave the same.
func made(t *testing.T, n int) holds {
	t.Helper()
	s, e := store.New()
	want(t, e, api.OK)
	want(t, s.Create("f"), api.OK)
	want(t, s.Resize("f", 2000), api.OK)
	h := holds{s: s}
	for i := range n {
		want(t, s.Write("f", int64(i), []byte{'x'}), api.OK)
		h.spots = append(h.spots, spot{"f", int64(i)})
	}
	return h
}

// several is a store whose five pieces lie in three files, of four; neither files nor pieces came in the order of their names and places.
func several(t *testing.T) holds {
	t.Helper()
	s, e := store.New()
	want(t, e, api.OK)
	for _, name := range []string{"c", "a", "none", "b"} {
		want(t, s.Create(name), api.OK)
		want(t, s.Resize(name, 2000), api.OK)
	}
	for _, p := range []spot{{"c", 5}, {"a", 700}, {"b", 1}, {"a", 3}, {"b", 0}} {
		want(t, s.Write(p.name, p.at, []byte{'x'}), api.OK)
	}
	return holds{s, []spot{{"a", 700}, {"a", 3}, {"b", 1}, {"b", 0}, {"c", 5}}}
}

// bare is a store without files.
func bare(t *testing.T) holds {
	t.Helper()
	s, e := store.New()
	want(t, e, api.OK)
	return holds{s: s}
}

// left holds a store against what the picks leave of h, byte by byte.
func (h holds) left(t *testing.T, o *store.Store, way []int) {
	t.Helper()
	if o == nil || o.Pending() != 0 || !slices.Equal(o.Names(), h.s.Names()) {
		t.Fatal("another kind of store", o)
	}
	if done, fates := o.Steps(); done != 0 || fates != 0 {
		t.Fatal(done, fates)
	}
	bytes := map[spot]byte{}
	for i, p := range h.spots {
		bytes[p] = byte(way[i]) * 'x'
	}
	for _, name := range o.Names() {
		b, e := o.Read(name, 0, 2001)
		want(t, e, api.OK)
		if len(b) != 2000 {
			t.Fatal(len(b))
		}
		for at, x := range b {
			if x != bytes[spot{name, int64(at)}] {
				t.Fatalf("way %v: %q at %d is %d", way, name, at, x)
			}
		}
	}
}

// rising are all ways of n picks in their order: those with 0 first, then those with 1 first.
func rising(n int) [][]int {
	if n == 0 {
		return [][]int{{}}
	}
	var list [][]int
	for first := range 2 {
		for _, rest := range rising(n - 1) {
			list = append(list, append([]int{first}, rest...))
		}
	}
	return list
}

// row is n times a pick, and then others.
func row(n, pick int, others ...int) []int {
	return append(slices.Repeat([]int{pick}, n), others...)
}
