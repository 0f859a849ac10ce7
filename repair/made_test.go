package repair

import (
	"bytes"
	"encoding/binary"
	"testing"

	"palimpsest/api"
	"palimpsest/check"
	"palimpsest/deflate"
	"palimpsest/head"
	"palimpsest/stops"
	"palimpsest/store"
	"palimpsest/tables"
)

const name = "f" // the file of all images

// picture is an image's bytes that are being made by hand.
type picture struct {
	t     testing.TB
	h     api.Head
	c     int64 // bytes of a cluster
	b     []byte
	snaps []api.Snap
	rows  []api.Row
}

// drawn is a picture: a head, a counts' table, blocks that tell of so many clusters; without a guest as yet.
func drawn(t testing.TB, bits, order int, clusters int64) *picture {
	t.Helper()
	c := int64(1) << bits
	p := &picture{t: t, h: api.Head{Bits: bits, Order: order, Counts: c, CountsLen: 1}, c: c, b: make([]byte, 2*c)}
	for i := int64(0); i*p.per() < clusters; i++ {
		p.word(c+8*i, uint64(p.take(c)))
	}
	return p
}

// per tells how many counts a block has.
func (p *picture) per() int64 { return p.c * 8 >> p.h.Order }

// take takes clusters for so many bytes behind all others, and tells their place.
func (p *picture) take(long int64) int64 {
	at := int64(len(p.b))
	p.b = append(p.b, make([]byte, (long+p.c-1)/p.c*p.c)...)
	return at
}

// grown has so many clusters at least.
func (p *picture) grown(clusters int64) *picture {
	p.take(max(clusters*p.c-int64(len(p.b)), 0))
	return p
}

// word puts a word of 8 bytes to a place.
func (p *picture) word(at int64, x uint64) { binary.LittleEndian.PutUint64(p.b[at:], x) }

// data, packed are words of entries.
func data(place int64) uint64             { return uint64(place) | 2 }
func packed(place int64, long int) uint64 { return uint64(place)<<16 | uint64(long)<<2 | 3 }

// filled is the word of a new cluster that is full of a byte.
func (p *picture) filled(x byte) uint64 {
	at := p.take(p.c)
	copy(p.b[at:], bytes.Repeat([]byte{x}, int(p.c)))
	return data(at)
}

// pieces are the words of clusters that are full of a byte each, packed into a new one.
func (p *picture) pieces(list ...byte) []uint64 {
	p.t.Helper()
	at := p.take(p.c)
	var words []uint64
	for _, x := range list {
		b, no := deflate.Pack(bytes.Repeat([]byte{x}, int(p.c)), 1)
		want(p.t, no, api.OK)
		copy(p.b[at:], b)
		words = append(words, packed(at, len(b)))
		at += int64(len(b))
	}
	return words
}

// table is a new run of these words: its place.
func (p *picture) table(words ...uint64) int64 {
	at := p.take(int64(8 * len(words)))
	for i, w := range words {
		p.word(at+int64(8*i), w)
	}
	return at
}

// root lets these L2 tables be the active tree's.
func (p *picture) root(places ...uint64) {
	p.h.L1, p.h.L1Len = p.table(places...), len(places)
	p.h.Size = min(int64(len(places))*p.c/8*p.c, api.MaxGuest)
}

// snap makes a snapshot of these L2 tables.
func (p *picture) snap(places ...uint64) {
	p.snaps = append(p.snaps, api.Snap{Name: string(rune('a' + len(p.snaps))), L1: p.table(places...), L1Len: len(places)})
}

// row makes a bitmap whose bytes are so many clusters from a place on.
func (p *picture) row(at, clusters int64) {
	p.rows = append(p.rows, api.Row{Name: string(rune('a' + len(p.rows))), Gran: 9, At: at, Len: int(clusters * p.c)})
}

// lists writes the lists of snapshots and of bitmaps.
func (p *picture) lists() {
	p.t.Helper()
	if len(p.snaps) > 0 {
		b, no := tables.Snaps(p.h.Bits, p.snaps...)
		want(p.t, no, api.OK)
		p.h.Snaps, p.h.SnapsAt, p.h.SnapsLen = len(p.snaps), p.take(int64(len(b))), len(b)
		copy(p.b[p.h.SnapsAt:], b)
	}
	if len(p.rows) > 0 {
		b, no := tables.Rows(p.h.Bits, p.rows...)
		want(p.t, no, api.OK)
		p.h.Bitmaps, p.h.BitmapsAt, p.h.BitmapsLen = len(p.rows), p.take(int64(len(b))), len(b)
		copy(p.b[p.h.BitmapsAt:], b)
	}
}

// head writes the head.
func (p *picture) head() *picture {
	p.t.Helper()
	b, no := head.Bytes(p.h)
	want(p.t, no, api.OK)
	copy(p.b, b)
	return p
}

// sealed writes the head, and the counts: what holds clusters, or as much of it as a count can say.
func (p *picture) sealed() *picture {
	p.t.Helper()
	p.head()
	held, no := check.Holders(p.b)
	want(p.t, no, api.OK)
	q := read(p.b)
	for k, n := range held {
		if _, is := q.count(k); is {
			q.set(k, min(n, q.most()))
		}
	}
	return p
}

// bent is another picture, which goes on apart, with counts that are other ones: pairs of a cluster and its count.
func (p *picture) bent(pairs ...uint64) *picture {
	q := *p
	q.b = bytes.Clone(p.b)
	for ; len(pairs) > 0; pairs = pairs[2:] {
		read(q.b).set(int64(pairs[0]), pairs[1])
	}
	return &q
}

// dirty is another one, with FlagDirty.
func (p *picture) dirty() *picture {
	q := p.bent()
	q.h.Flags = api.FlagDirty
	return q.head()
}

// laid is a store with these bytes, all of which last.
func (p *picture) laid() *store.Store {
	p.t.Helper()
	return filed(p.t, p.b)
}

// filed is a store with a file of these bytes, all of which last, and with another file.
func filed(t testing.TB, b []byte) *store.Store {
	t.Helper()
	s, _ := store.New()
	for _, n := range []string{"another", name} {
		want(t, s.Create(n), api.OK)
		want(t, s.Write(n, 0, b), api.OK)
		want(t, s.Flush(n), api.OK)
	}
	return s
}

// full is a picture of each thing that an image may have: data, noughts, packed pieces, a table and data that snapshots share, lists, bitmaps; of counts of one bit without what is shared.
func full(t testing.TB, bits, order int) *picture {
	t.Helper()
	p := drawn(t, bits, order, 30)
	lead := func(words ...uint64) uint64 {
		return uint64(p.table(append(words, make([]uint64, p.c/8-int64(len(words)))...)...))
	}
	a, b := p.filled('a'), p.filled('b')
	if order == 0 {
		p.root(lead(a, 1, p.pieces('c')[0]), 0, lead(0, b))
		p.snap(lead(p.filled('d')))
	} else {
		c := p.pieces('c', 'd')
		shared := lead(b, c[1], 1)
		p.root(lead(a, 1, c[0], b), 0, shared)
		p.snap(0, shared)
		p.snap(lead(a))
	}
	p.row(p.take(2*p.c), 2)
	p.rows = append(p.rows, api.Row{Name: "none", Gran: 16})
	p.lists()
	p.take(3 * p.c) // nothing holds these
	return p.sealed()
}

// whole is the file's bytes.
func whole(t testing.TB, s *store.Store) []byte {
	t.Helper()
	size, no := s.Size(name)
	want(t, no, api.OK)
	b, no := s.Read(name, 0, int(size))
	want(t, no, api.OK)
	return b
}

// lasting is what a crash leaves, if nothing that was not flushed lasts.
func lasting(t testing.TB, s *store.Store) *store.Store {
	t.Helper()
	left, no := s.Crash()
	want(t, no, api.OK)
	return left
}

// want holds one answer against another.
func want(t testing.TB, have, want api.Errno) {
	t.Helper()
	if have != want {
		t.Fatalf("%v, want %v", have, want)
	}
}

// steps tells how many steps a store did.
func steps(s *store.Store) int {
	n, _ := s.Steps()
	return n
}

// unchanged lets calls be made that must neither change the store nor take a step.
func unchanged(t testing.TB, s *store.Store, calls func()) {
	t.Helper()
	was, before := s.Copy(), steps(s)
	calls()
	if now := steps(s); now != before || !s.Same(was) {
		t.Fatalf("it has changed: %d steps, %d before", now, before)
	}
}

// sameBytes holds bytes against what they should be.
func sameBytes(t testing.TB, have, should []byte, said ...any) {
	t.Helper()
	if bytes.Equal(have, should) {
		return
	}
	at := 0
	for at < min(len(have), len(should)) && have[at] == should[at] {
		at++
	}
	t.Fatal("sizes", len(have), len(should), "first differ at", at, said)
}

// crashes goes over all that a crash may leave of a store; too much of it would not be gone through in time, and is to be told, not passed over.
func crashes(t testing.TB, s *store.Store, each func(n int, left *store.Store)) {
	t.Helper()
	if s.Pending() > 10 {
		t.Fatal("too many ways", s.Pending())
	}
	for n, left := range stops.Images(s) {
		each(n, left)
	}
}

// fails are the ways in which a step may fail.
func fails() []api.Fate {
	return []api.Fate{{Kind: api.FateFail}, {Kind: api.FateFail, Keep: 1}, {Kind: api.FateFull, Keep: 2}, {Kind: api.FateFull, Keep: 99}}
}

// told is the error of a step of that fate.
func told(f api.Fate) api.Errno {
	return [...]api.Errno{api.FateGood: api.OK, api.FateFail: api.ErrDisk, api.FateFull: api.ErrFull}[f.Kind]
}

// feed lets the step behind so many good ones fail.
func feed(t testing.TB, s *store.Store, good int, fates ...api.Fate) {
	t.Helper()
	want(t, s.Feed(append(make([]api.Fate, good), fates...)...), api.OK)
}

// unfed tells whether a fate is left that no step took.
func unfed(s *store.Store) bool {
	_, left := s.Steps()
	return left > 0
}
