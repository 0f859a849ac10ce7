package image

import (
	"bytes"
	"encoding/binary"
	"testing"

	"palimpsest/api"
	"palimpsest/check"
	"palimpsest/deflate"
	"palimpsest/entry"
	"palimpsest/head"
	"palimpsest/stops"
	"palimpsest/store"
	"palimpsest/tables"
)

const name = "f" // the file of all images

// root is where a tree begins.
type root struct {
	l1   int64
	long int
}

// picture is an image's bytes that are being made by hand.
type picture struct {
	t     testing.TB
	h     api.Head
	c     int64 // bytes of a cluster
	b     []byte
	snaps []api.Snap
}

// drawn is a picture: a head, a counts' table, blocks for so many clusters, an L1 table for a guest of that size that leads nowhere as yet.
func drawn(t testing.TB, bits, order int, size, clusters int64) *picture {
	t.Helper()
	c := int64(1) << bits
	p := &picture{t: t, h: api.Head{Bits: bits, Order: order, Size: size, Counts: c, CountsLen: 1}, c: c, b: make([]byte, 2*c)}
	per := c * 8 >> order
	for i := int64(0); i*per < clusters; i++ {
		p.word(p.h.Counts+8*i, p.take(c))
	}
	many := (size + c - 1) / c
	p.root(p.tree(make([]int64, (many+c/8-1)/(c/8))...))
	return p
}

// root lets the active tree be that one.
func (p *picture) root(r root) { p.h.L1, p.h.L1Len = r.l1, r.long }

// active is the active tree.
func (p *picture) active() root { return root{p.h.L1, p.h.L1Len} }

// roots are all trees, the active one first.
func (p *picture) roots() []root {
	list := []root{p.active()}
	for _, s := range p.snaps {
		list = append(list, root{s.L1, s.L1Len})
	}
	return list
}

// take takes clusters for so many bytes behind all others, and tells their place.
func (p *picture) take(long int64) int64 {
	at := int64(len(p.b))
	p.b = append(p.b, make([]byte, (long+p.c-1)/p.c*p.c)...)
	return at
}

// word puts a word of 8 bytes to a place.
func (p *picture) word(at, x int64) { binary.LittleEndian.PutUint64(p.b[at:], uint64(x)) }

// data is a cluster that is full of a byte.
func (p *picture) data(x byte) api.Entry {
	at := p.take(p.c)
	copy(p.b[at:], bytes.Repeat([]byte{x}, int(p.c)))
	return api.Entry{Kind: api.EntryData, Place: at}
}

// packed are clusters that are full of a byte each, packed into one.
func (p *picture) packed(list ...byte) []api.Entry {
	p.t.Helper()
	at := p.take(p.c)
	var told []api.Entry
	for _, x := range list {
		b, no := deflate.Pack(bytes.Repeat([]byte{x}, int(p.c)), 1)
		want(p.t, no, api.OK)
		copy(p.b[at:], b)
		told = append(told, api.Entry{Kind: api.EntryPacked, Place: at, Len: len(b)})
		at += int64(len(b))
	}
	return told
}

// table is an L2 table with these entries.
func (p *picture) table(entries map[int]api.Entry) int64 {
	p.t.Helper()
	at := p.take(p.c)
	for i, e := range entries {
		want(p.t, entry.Put(p.b[at:at+p.c], i, e, p.h.Bits), api.OK)
	}
	return at
}

// tree is an L1 table that leads to these L2 tables.
func (p *picture) tree(places ...int64) root {
	if len(places) == 0 {
		return root{}
	}
	at := p.take(int64(8 * len(places)))
	for i, place := range places {
		p.word(at+int64(8*i), place)
	}
	return root{at, len(places)}
}

// snap makes a snapshot of a tree.
func (p *picture) snap(r root) {
	p.snaps = append(p.snaps, api.Snap{Name: string(rune('a' + len(p.snaps))), L1: r.l1, L1Len: r.long, Size: p.h.Size})
}

// sealed writes the list of snapshots, the head, and the counts: what holds clusters, and more for those that are leaks.
func (p *picture) sealed(leaks ...int64) *picture {
	p.t.Helper()
	if len(p.snaps) > 0 {
		b, no := tables.Snaps(p.h.Bits, p.snaps...)
		want(p.t, no, api.OK)
		p.h.Snaps, p.h.SnapsAt, p.h.SnapsLen = len(p.snaps), p.take(int64(len(b))), len(b)
		copy(p.b[p.h.SnapsAt:], b)
	}
	p.head()
	q := read(p.b)
	for k, n := range q.holders() {
		q.set(k, n)
	}
	for _, k := range leaks {
		x, _ := q.count(k)
		q.set(k, x+1)
	}
	return p
}

// head writes the head.
func (p *picture) head() {
	p.t.Helper()
	b, no := head.Bytes(p.h)
	want(p.t, no, api.OK)
	copy(p.b, b)
}

// laid is a store with these bytes, all of which last.
func (p *picture) laid() *store.Store {
	p.t.Helper()
	return filed(p.t, p.b)
}

// filed is a store with a file of these bytes, all of which last.
func filed(t testing.TB, b []byte) *store.Store {
	t.Helper()
	s, _ := store.New()
	want(t, s.Create(name), api.OK)
	want(t, s.Write(name, 0, b), api.OK)
	want(t, s.Flush(name), api.OK)
	return s
}

// opened is a store with these bytes, and the image that is open for writing.
func (p *picture) opened() (*store.Store, *Image) {
	p.t.Helper()
	s := p.laid()
	return s, open(p.t, s, true)
}

// open opens the image of a store.
func open(t testing.TB, s *store.Store, write bool) *Image {
	t.Helper()
	x, no := Open(s, name, write)
	if no != api.OK || x == nil {
		t.Fatal("not opened", no)
	}
	return x
}

// created is a store with a new image.
func created(t testing.TB, m api.Make) *store.Store {
	t.Helper()
	s, _ := store.New()
	want(t, Create(s, name, m), api.OK)
	return s
}

// whole is the file's bytes.
func whole(t testing.TB, s *store.Store) []byte {
	t.Helper()
	size, no := s.Size(name)
	want(t, no, api.OK)
	b, no := s.Read(name, 0, int(size))
	want(t, no, api.OK)
	return b
}

// lasting is what a crash leaves, if nothing that was not flushed lasts.
func lasting(t testing.TB, s *store.Store) *store.Store {
	t.Helper()
	left, no := s.Crash()
	want(t, no, api.OK)
	return left
}

// want holds one answer against another.
func want(t testing.TB, have, want api.Errno) {
	t.Helper()
	if have != want {
		t.Fatalf("%v, want %v", have, want)
	}
}

// steps tells how many steps a store did.
func steps(s *store.Store) int {
	n, _ := s.Steps()
	return n
}

// unchanged lets calls be made that must neither change the store nor take a step.
func unchanged(t testing.TB, s *store.Store, calls func()) {
	t.Helper()
	was, before := s.Copy(), steps(s)
	calls()
	if now := steps(s); now != before || !s.Same(was) {
		t.Fatalf("it has changed: %d steps, %d before", now, before)
	}
}

// sameBytes holds bytes against what they should be.
func sameBytes(t testing.TB, have, should []byte, said ...any) {
	t.Helper()
	if bytes.Equal(have, should) {
		return
	}
	at := 0
	for at < min(len(have), len(should)) && have[at] == should[at] {
		at++
	}
	t.Fatal("sizes", len(have), len(should), "first differ at", at, said)
}

// leaky asks check: nothing but leaks is found.
func leaky(t testing.TB, s *store.Store, said ...any) {
	t.Helper()
	r, no := check.Check(s, name)
	if no != api.OK || r.Broken {
		t.Fatal(no, r.Finds[:min(len(r.Finds), 4)], said)
	}
}

// clean asks check: nothing is found.
func clean(t testing.TB, s *store.Store, said ...any) {
	t.Helper()
	r, no := check.Check(s, name)
	if no != api.OK || len(r.Finds) > 0 {
		t.Fatal(no, r.Finds[:min(len(r.Finds), 4)], said)
	}
}

// crashes goes over all that a crash may leave of a store; too much of it would not be gone through in time, and is to be told, not passed over.
func crashes(t testing.TB, s *store.Store, each func(n int, left *store.Store)) {
	t.Helper()
	if s.Pending() > 10 {
		t.Fatal("too many ways", s.Pending())
	}
	for n, left := range stops.Images(s) {
		each(n, left)
	}
}

// fails are the ways in which a step may fail.
func fails() []api.Fate {
	return []api.Fate{{Kind: api.FateFail}, {Kind: api.FateFail, Keep: 1}, {Kind: api.FateFull, Keep: 2}, {Kind: api.FateFull, Keep: 99}}
}

// told is the error of a step of that fate.
func told(f api.Fate) api.Errno {
	return [...]api.Errno{api.FateGood: api.OK, api.FateFail: api.ErrDisk, api.FateFull: api.ErrFull}[f.Kind]
}

// feed lets the step behind so many good ones fail.
func feed(t testing.TB, s *store.Store, good int, fates ...api.Fate) {
	t.Helper()
	want(t, s.Feed(append(make([]api.Fate, good), fates...)...), api.OK)
}

// unfed tells whether a fate is left that no step took.
func unfed(s *store.Store) bool {
	_, left := s.Steps()
	return left > 0
}
