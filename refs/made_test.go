package refs

import (
	"bytes"
	"encoding/binary"
	"testing"

	"palimpsest/api"
	"palimpsest/check"
	"palimpsest/head"
	"palimpsest/store"
)

const file = "f" // the file of all images

// picture is an image's bytes that are being made; it has no guest.
type picture struct {
	h api.Head
	c int64 // bytes of a cluster
	b []byte
}

// drawn is a picture of so many clusters: a head, and a counts' table of long clusters that begins with a cluster of that number and says nothing as yet.
func drawn(t testing.TB, bits, order int, table int64, long int, clusters int64) *picture {
	t.Helper()
	c := int64(1) << bits
	p := &picture{api.Head{Bits: bits, Order: order, Counts: table * c, CountsLen: long}, c, make([]byte, clusters*c)}
	p.seal(t)
	return p
}

// seal writes the head.
func (p *picture) seal(t testing.TB) {
	t.Helper()
	s, no := head.Bytes(p.h)
	if no != api.OK {
		t.Fatal("no head", no, p.h)
	}
	copy(p.b, s)
}

// right is a picture of which check finds nothing: a head, a counts' table, the first block.
func right(t testing.TB, bits, order, long int) *picture {
	t.Helper()
	p := drawn(t, bits, order, 1, long, int64(long)+2)
	p.block(0, int64(long)+1)
	for k := range int64(long) + 2 {
		p.count(k, 1)
	}
	return p
}

// lead puts a place into the counts' table.
func (p *picture) lead(block int64, place uint64) {
	binary.LittleEndian.PutUint64(p.b[p.h.Counts+8*block:], place)
}

// block lets a block begin with a cluster of that number.
func (p *picture) block(i, cluster int64) { p.lead(i, uint64(cluster*p.c)) }

// count sets a count, whose block is there.
func (p *picture) count(k int64, x uint64) { reckon(p.h, p.b).set(k, x) }

// grown is the picture with so many clusters.
func (p *picture) grown(clusters int64) *picture {
	p.b = append(p.b, make([]byte, clusters*p.c-int64(len(p.b)))...)
	return p
}

// laid is a store with these bytes, all of which last.
func (p *picture) laid(t testing.TB) *store.Store {
	t.Helper()
	s, _ := store.New()
	want(t, s.Create(file), api.OK)
	want(t, s.Write(file, 0, p.b), api.OK)
	want(t, s.Flush(file), api.OK)
	return s
}

// opened is a store with these bytes, and a refs of it.
func (p *picture) opened(t testing.TB) (*store.Store, *Refs) {
	t.Helper()
	s := p.laid(t)
	return s, open(t, s)
}

// open opens the image of a store.
func open(t testing.TB, s *store.Store) *Refs {
	t.Helper()
	r, no := Open(s, file)
	if no != api.OK || r == nil {
		t.Fatal("not opened", no)
	}
	return r
}

// whole is the file's bytes.
func whole(t testing.TB, s *store.Store) []byte {
	t.Helper()
	size, no := s.Size(file)
	want(t, no, api.OK)
	b, no := s.Read(file, 0, int(size))
	want(t, no, api.OK)
	return b
}

// lasting is what a crash leaves, if nothing that was not flushed lasts.
func lasting(t testing.TB, s *store.Store) *store.Store {
	t.Helper()
	left, no := s.Crash()
	want(t, no, api.OK)
	return left
}

// want holds one answer against another.
func want(t testing.TB, have, want api.Errno) {
	t.Helper()
	if have != want {
		t.Fatalf("%v, want %v", have, want)
	}
}

// counted holds a count against what it should be.
func counted(t testing.TB, r *Refs, k int64, should uint64) {
	t.Helper()
	if x, no := r.Count(k); x != should || no != api.OK {
		t.Fatalf("count of %d: %d, %v; want %d", k, x, no, should)
	}
}

// uncounted holds a refused Count against its error.
func uncounted(t testing.TB, r *Refs, k int64, should api.Errno) {
	t.Helper()
	if x, no := r.Count(k); x != 0 || no != should {
		t.Fatalf("count of %d: %d, %v; want %v", k, x, no, should)
	}
}

// took takes a run, and tells its first cluster.
func took(t testing.TB, r *Refs, n int) int64 {
	t.Helper()
	place, no := r.Alloc(n)
	if no != api.OK || place%r.cluster != 0 {
		t.Fatalf("Alloc(%d): %d, %v", n, place, no)
	}
	return place / r.cluster
}

// untaken holds a refused Alloc against its error.
func untaken(t testing.TB, r *Refs, n int, should api.Errno) {
	t.Helper()
	if place, no := r.Alloc(n); place != 0 || no != should {
		t.Fatalf("Alloc(%d): %d, %v; want %v", n, place, no, should)
	}
}

// unchanged lets calls be made that must neither change the store nor take a step.
func unchanged(t testing.TB, s *store.Store, calls func()) {
	t.Helper()
	was := s.Copy()
	steps, _ := s.Steps()
	calls()
	if now, _ := s.Steps(); now != steps || !s.Same(was) {
		t.Fatalf("it has changed: %d steps, %d before", now, steps)
	}
}

// leaky asks check: nothing but leaks is found.
func leaky(t testing.TB, s *store.Store, said ...any) {
	t.Helper()
	x, no := check.Check(s, file)
	if no != api.OK || x.Broken {
		t.Fatal(no, x.Finds[:min(len(x.Finds), 4)], said)
	}
}

// sameBytes holds a file's bytes against what they should be.
func sameBytes(t testing.TB, s *store.Store, should []byte, said ...any) {
	t.Helper()
	have := whole(t, s)
	if bytes.Equal(have, should) {
		return
	}
	at := 0
	for at < min(len(have), len(should)) && have[at] == should[at] {
		at++
	}
	t.Fatal("sizes", len(have), len(should), "first differ at", at, said)
}
