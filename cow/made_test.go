package cow

import (
	"bytes"
	"math"
	"runtime/debug"
	"testing"

	"palimpsest/api"
	"palimpsest/check"
	"palimpsest/deflate"
	"palimpsest/image"
	"palimpsest/repair"
	"palimpsest/store"
	"palimpsest/tables"
)

// TestMain lets memory be gone through less often: most of what these tests make, stores and images, is let go of at once.
func TestMain(m *testing.M) {
	debug.SetGCPercent(800)
	m.Run()
}

// level is how an image of a chain is made.
type level struct {
	bits, order int
	sectors     int64
}

// stack is images over images in a store, the first one above all others: as disks, and by the plain way.
type stack struct {
	t      testing.TB
	s      *store.Store
	disks  []*Disk
	plains []*plain
}

// called is the name of the file of an image of a chain.
func called(i int) string { return string(rune('a' + i)) }

// stacked makes a chain of images that are all open for writing.
func stacked(t testing.TB, levels ...level) *stack {
	t.Helper()
	s, no := store.New()
	want(t, no, api.OK)
	for i, l := range levels {
		want(t, image.Create(s, called(i), api.Make{Bits: l.bits, Order: l.order, Size: l.sectors * api.Sector}), api.OK)
	}
	k := &stack{t: t, s: s}
	k.open(true, len(levels))
	var below *plain
	for i := len(levels) - 1; i >= 0; i-- {
		below = blank(levels[i].bits, levels[i].sectors, below)
		k.plains = append([]*plain{below}, k.plains...)
	}
	return k
}

// open opens the images of a chain, and lays disks over them.
func (k *stack) open(write bool, many int) {
	k.t.Helper()
	k.disks = make([]*Disk, many)
	var below *Disk
	for i := many - 1; i >= 0; i-- {
		below = over(k.t, imaged(k.t, k.s, called(i), write), below)
		k.disks[i] = below
	}
}

// closed closes all images.
func (k *stack) closed() {
	k.t.Helper()
	for _, d := range k.disks {
		want(k.t, d.Image().Close(), api.OK)
	}
}

// again is the chain once more, in a copy of its store, where nothing is open as yet: its images are closed here.
func (k *stack) again() *stack {
	k.t.Helper()
	k.closed()
	return &stack{t: k.t, s: k.s, plains: k.plains}
}

// copied is the chain in a store of its own; its images, which are closed, are opened there.
func (k *stack) copied() *stack {
	k.t.Helper()
	c := &stack{t: k.t, s: k.s.Copy(), plains: k.plains[0].copies()}
	c.open(true, len(k.plains))
	return c
}

// top is the disk above all others.
func (k *stack) top() *Disk { return k.disks[0] }

// imaged opens an image.
func imaged(t testing.TB, s *store.Store, name string, write bool) *image.Image {
	t.Helper()
	x, no := image.Open(s, name, write)
	if no != api.OK || x == nil {
		t.Fatal("not opened", name, no)
	}
	return x
}

// over lays a disk over another one.
func over(t testing.TB, x *image.Image, below *Disk) *Disk {
	t.Helper()
	d, no := New(x, below)
	if no != api.OK || d == nil {
		t.Fatal("no disk", no)
	}
	return d
}

// alone is a new image, with the plain way beside it.
func alone(t testing.TB, bits, order int, sectors int64) *stack {
	t.Helper()
	return stacked(t, level{bits, order, sectors})
}

// do lets the same be done to a disk of a chain and to the plain one.
func (k *stack) do(i int, a act) {
	k.t.Helper()
	want(k.t, a.on(k.disks[i]), api.OK, a.said)
	a.plainly(k.plains[i])
}

// did lets acts be done to a disk of a chain.
func (k *stack) did(i int, acts ...act) {
	k.t.Helper()
	for _, a := range acts {
		k.do(i, a)
	}
}

// same holds all disks of a chain against the plain ones, and asks check of their images: nothing is found.
func (k *stack) same(said ...any) {
	k.t.Helper()
	for i, d := range k.disks {
		if wrong := k.plains[i].differs(d); wrong != "" {
			k.t.Fatal("disk ", i, ": ", wrong, said)
		}
		clean(k.t, k.s, called(i), said...)
	}
}

// snapped lets a snapshot hold the active tree, too.
func snapped(t testing.TB, x *image.Image) {
	t.Helper()
	h, no := x.Head()
	want(t, no, api.OK)
	b, no := x.Read(h.L1, 8*h.L1Len)
	want(t, no, api.OK)
	l1, no := x.Save(b)
	want(t, no, api.OK)
	want(t, x.Hold(l1, h.L1Len, 1), api.OK)
	list, no := tables.Snaps(h.Bits, api.Snap{Name: "s", L1: l1, L1Len: h.L1Len, Size: h.Size})
	want(t, no, api.OK)
	h.Snaps, h.SnapsLen = 1, len(list)
	h.SnapsAt, no = x.Save(list)
	want(t, no, api.OK)
	want(t, x.Switch(h), api.OK)
}

// entryOf is a guest cluster's entry.
func entryOf(t testing.TB, d *Disk, k int64) api.Entry {
	t.Helper()
	e, no := d.Image().Entry(k)
	want(t, no, api.OK, "entry", k)
	return e
}

// countOf is the count of the cluster to which a guest cluster's entry leads.
func countOf(t testing.TB, d *Disk, k int64) uint64 {
	t.Helper()
	n, no := d.Image().Count(entryOf(t, d, k).Place)
	want(t, no, api.OK, "count", k)
	return n
}

// rowOf is the bytes of sectors.
func rowOf(list ...int) []byte {
	var b []byte
	for _, x := range list {
		b = append(b, sector(x)...)
	}
	return b
}

// wild is the first sector of those whose bytes do not pack.
const wild = 1000

// sector is the bytes of a sector: all the same, or, from wild on, such as do not pack.
func sector(x int) []byte {
	if x < wild {
		return bytes.Repeat([]byte{byte(x)}, api.Sector)
	}
	b, state := make([]byte, api.Sector), uint64(x)
	for i := range b {
		state = state*6364136223846793005 + 1442695040888963407
		b[i] = byte(state >> 56)
	}
	return b
}

// odd are numbers around those that matter for a guest of so many bytes.
func odd(size int64) []int64 {
	return []int64{
		math.MinInt64, math.MinInt64 + 512, -512, -1, 0, 1, 511, 512, 513, 1024, size - 512, size - 1, size, size + 1, size + 512,
		api.MaxGuest, 1 << 40, math.MaxInt64 - 511, math.MaxInt64,
	}
}

// want holds one answer against another.
func want(t testing.TB, have, want api.Errno, said ...any) {
	t.Helper()
	if have != want {
		t.Fatalf("%v, want %v %v", have, want, said)
	}
}

// unchanged lets calls be made that must neither change the store nor take a step.
func unchanged(t testing.TB, s *store.Store, calls func()) {
	t.Helper()
	was := s.Copy()
	before, _ := s.Steps()
	calls()
	if now, _ := s.Steps(); now != before || !s.Same(was) {
		t.Fatalf("it has changed: %d steps, %d before", now, before)
	}
}

// sameBytes holds bytes against what they should be.
func sameBytes(t testing.TB, have, should []byte, said ...any) {
	t.Helper()
	if bytes.Equal(have, should) {
		return
	}
	at := 0
	for at < min(len(have), len(should)) && have[at] == should[at] {
		at++
	}
	t.Fatal("sizes", len(have), len(should), "first differ at", at, said)
}

// clean asks check: nothing is found.
func clean(t testing.TB, s *store.Store, name string, said ...any) {
	t.Helper()
	r, no := check.Check(s, name)
	if no != api.OK || len(r.Finds) > 0 {
		t.Fatal(name, no, r.Finds[:min(len(r.Finds), 4)], said)
	}
}

// leaky asks check: nothing but leaks is found.
func leaky(t testing.TB, s *store.Store, name string, said ...any) {
	t.Helper()
	r, no := check.Check(s, name)
	if no != api.OK || r.Broken {
		t.Fatal(name, no, r.Finds[:min(len(r.Finds), 4)], said)
	}
}

// fails are the ways in which a step may fail.
func fails() []api.Fate {
	return []api.Fate{{Kind: api.FateFail}, {Kind: api.FateFail, Keep: 1}, {Kind: api.FateFull, Keep: 2}, {Kind: api.FateFull, Keep: 99}}
}

// erring is the error of a step of that fate.
func erring(f api.Fate) api.Errno {
	return [...]api.Errno{api.FateGood: api.OK, api.FateFail: api.ErrDisk, api.FateFull: api.ErrFull}[f.Kind]
}

// feed lets the step behind so many good ones fail.
func feed(t testing.TB, s *store.Store, good int, fate api.Fate) {
	t.Helper()
	want(t, s.Feed(append(make([]api.Fate, good), fate)...), api.OK)
}

// unfed tells whether a fate is left that no step took.
func unfed(s *store.Store) bool {
	_, left := s.Steps()
	return left > 0
}

// packedBytes are bytes packed.
func packedBytes(t testing.TB, b []byte) []byte {
	t.Helper()
	p, no := deflate.Pack(b, 1)
	want(t, no, api.OK)
	return p
}

// opens is the disk of a chain of two, if it can be opened.
func opens(s *store.Store, write bool) *Disk {
	below, no := image.Open(s, "b", false)
	if no != api.OK {
		return nil
	}
	x, no := image.Open(s, "a", write)
	if no != api.OK {
		return nil
	}
	b, _ := New(below, nil)
	d, _ := New(x, b)
	return d
}

// right makes the image of a file right.
func right(t testing.TB, s *store.Store, name string) {
	t.Helper()
	_, no := repair.Repair(s, name)
	want(t, no, api.OK)
}
