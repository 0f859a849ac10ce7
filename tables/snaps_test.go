package tables

import (
	"bytes"
	"math"
	"slices"
	"testing"

	"palimpsest/api"
)

// P11.1: the chapter's examples of snapshots.
func TestSnapExamples(t *testing.T) {
	a := api.Snap{Name: "a", L1: 1024, L1Len: 1, Size: 512}
	want := []byte{1, 97, 0, 4, 0, 0, 0, 0, 0, 0, 1, 0, 0, 0, 0, 2, 0, 0, 0, 0, 0, 0}
	b, e := Snaps(9, a)
	if !bytes.Equal(b, want) || e != api.OK {
		t.Error(b, e)
	}
	if l, e := ReadSnaps(9, want, 1); !slices.Equal(l, []api.Snap{a}) || e != api.OK {
		t.Error(l, e)
	}
	if l, e := ReadSnaps(9, want, 2); l != nil || e != api.ErrTable {
		t.Error(l, e)
	}
	if l, e := ReadSnaps(9, want[:21], 1); l != nil || e != api.ErrTable {
		t.Error(l, e)
	}
	if b, e := Snaps(9, a, a); b != nil || e != api.ErrArg {
		t.Error(b, e)
	}
	if b, e := Snaps(8); b != nil || e != api.ErrArg {
		t.Error(b, e)
	}
	if b, e := Snaps(9); len(b) != 0 || e != api.OK {
		t.Error(b, e)
	}
	if l, e := ReadSnaps(9, nil, 0); len(l) != 0 || e != api.OK {
		t.Error(l, e)
	}
}

// P11.1: each number of a snapshot stands in its place, the lowest byte first; the next one follows at once.
func TestSnapBytes(t *testing.T) {
	l := []api.Snap{
		{Name: "first\xff", L1: 0x0a0b0c00, L1Len: 0x0d0e0f, Size: 0x03020200},
		{Name: "z"},
		{Name: "last", L1: maxFile, L1Len: 1 << 20, Size: maxGuest},
	}
	want := "\x06first\xff" + "\x00\x0c\x0b\x0a\x00\x00\x00\x00" + "\x0f\x0e\x0d\x00" + "\x00\x02\x02\x03\x00\x00\x00\x00" +
		"\x01z" + "\x00\x00\x00\x00\x00\x00\x00\x00" + "\x00\x00\x00\x00" + "\x00\x00\x00\x00\x00\x00\x00\x00" +
		"\x04last" + "\x00\x00\x00\x10\x00\x00\x00\x00" + "\x00\x00\x10\x00" + "\x00\x00\x00\x04\x00\x00\x00\x00"
	b, e := Snaps(10, l...)
	if string(b) != want || e != api.OK {
		t.Fatalf("%q %v, want %q", b, e, want)
	}
	back, e := ReadSnaps(10, []byte(want), 3)
	if !slices.Equal(back, l) || e != api.OK {
		t.Fatal(back, e)
	}
	snapSide().held(t, 10, l...)
}

// snapJudged holds a snapshot against whether it may be: alone, and as the first and the last one of a list.
func snapJudged(t *testing.T, bits int, x api.Snap, may bool) {
	t.Helper()
	s := snapSide()
	if s.held(t, bits, x) != may {
		t.Fatalf("%+v by %d: want %v", x, bits, may)
	}
	other := []api.Snap{s.of("some"), s.of("other")}
	if s.held(t, bits, x, other[0], other[1]) != may || s.held(t, bits, other[0], other[1], x) != may {
		t.Fatalf("%+v by %d beside others: want %v", x, bits, may)
	}
}

// P11.1: names that may be, and that may not.
func TestSnapNames(t *testing.T) {
	for name, may := range names() {
		snapJudged(t, 9, api.Snap{Name: name}, may)
		snapJudged(t, 12, api.Snap{Name: name, L1: 8192, L1Len: 2, Size: 1024}, may)
	}
}

// P11.1: a size is a multiple of 512, whatever the cluster, from 0 to MaxGuest; how many entries it has does not hang on it.
func TestSnapSizes(t *testing.T) {
	for bits := 9; bits <= 16; bits++ {
		for size, may := range map[int64]bool{
			0: true, 512: true, 1024: true, 1536: true, 65536: true, maxGuest - 512: true, maxGuest: true,
			-1: false, -512: false, -maxGuest: false, 1: false, 511: false, 513: false, 256: false, 1000: false, maxGuest - 1: false, maxGuest + 1: false, maxGuest + 512: false, 2 * maxGuest: false,
			1 << 32: false, 1<<32 + 512: false, math.MaxInt64: false, math.MaxInt64 - 511: false, math.MinInt64: false, math.MinInt64 + 512: false,
		} {
			snapJudged(t, bits, api.Snap{Name: "s", Size: size}, may)
			snapJudged(t, bits, api.Snap{Name: "s", L1: 65536, L1Len: 1, Size: size}, may)
		}
	}
}

// P11.1: an L1 table has from 0 to 2^20 entries, and a place just if it has some.
func TestSnapEntries(t *testing.T) {
	for long, may := range map[int]bool{
		1: true, 2: true, 64: true, 1<<20 - 1: true, 1 << 20: true,
		0: false, -1: false, -1 << 20: false, 1<<20 + 1: false, 1 << 24: false, 1 << 31: false, 1 << 32: false, 1<<32 + 1: false, math.MaxInt: false, math.MinInt: false, math.MinInt + 1: false,
	} {
		snapJudged(t, 9, api.Snap{Name: "s", L1: 512, L1Len: long, Size: 512}, may)
		snapJudged(t, 9, api.Snap{Name: "s", L1: 0, L1Len: long, Size: 512}, long == 0)
		snapJudged(t, 16, api.Snap{Name: "s", L1: maxFile, L1Len: long}, may)
	}
}

// places are places, and whether they may be by these bits.
func places(bits int) map[int64]bool {
	cluster := int64(1) << bits
	return map[int64]bool{
		cluster: true, 2 * cluster: true, 3 * cluster: true, maxFile - cluster: true, maxFile: true,
		0: false, -1: false, -cluster: false, -maxFile: false, 1: false, cluster / 2: false, cluster - 1: false, cluster + 1: false, cluster + cluster/2: false,
		maxFile - 1: false, maxFile + 1: false, maxFile + cluster: false, 2 * maxFile: false, 1<<32 + cluster: false, 1 << 62: false,
		math.MaxInt64: false, math.MaxInt64 - cluster + 1: false, math.MinInt64: false, math.MinInt64 + cluster: false,
	}
}

// P11.1: a place is a multiple of the cluster above 0, at most MaxFile; without entries it is 0.
func TestSnapPlaces(t *testing.T) {
	for bits := 9; bits <= 16; bits++ {
		for at, may := range places(bits) {
			snapJudged(t, bits, api.Snap{Name: "s", L1: at, L1Len: 1}, may)
			snapJudged(t, bits, api.Snap{Name: "s", L1: at, L1Len: 1 << 20, Size: maxGuest}, may)
			snapJudged(t, bits, api.Snap{Name: "s", L1: at, L1Len: 0}, at == 0)
			snapJudged(t, bits, api.Snap{Name: "s", L1: at, L1Len: -1}, false)
		}
	}
}

// P11.1: of the bytes of a snapshot each number is in turn one that may not be, and at last one that may.
func TestReadSnapNumbers(t *testing.T) {
	s := snapSide()
	for _, x := range []api.Snap{{Name: ""}, {Name: "a\x00"}, {Name: "\x00"}, {Name: "a", L1: 512}, {Name: "a", L1Len: 1}, {Name: "a", L1: 513, L1Len: 1}, {Name: "a", L1: maxFile + 512, L1Len: 1},
		{Name: "a", L1: -512, L1Len: 1}, {Name: "a", L1: math.MinInt64, L1Len: 1}, {Name: "a", L1: 512, L1Len: 1<<20 + 1}, {Name: "a", L1: 512, L1Len: 1 << 31}, {Name: "a", L1: 512, L1Len: 1<<32 - 1},
		{Name: "a", Size: 1}, {Name: "a", Size: -512}, {Name: "a", Size: math.MinInt64}, {Name: "a", Size: maxGuest + 512}} {
		for _, l := range [][]api.Snap{{x}, {x, s.of("y")}, {s.of("y"), x}} {
			if s.heldBytes(t, 9, s.allLaid(l), len(l)) {
				t.Errorf("%+v is read", l)
			}
		}
	}
	if !s.heldBytes(t, 9, s.laid(api.Snap{Name: "a", L1: 512, L1Len: 1 << 20, Size: maxGuest}), 1) {
		t.Error("what may be is not read")
	}
}
