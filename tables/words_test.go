package tables

import (
	"bytes"
	"encoding/binary"
	"math"
	"math/rand"
	"slices"
	"strconv"
	"strings"
	"testing"

	"palimpsest/api"
)

// Bounds as the chapter and 'Limits' number them, apart from package api.
const (
	maxName  = 64
	maxFile  = 268435456
	maxGuest = 67108864
	maxList  = 64
	noTable  = api.Errno(210)
)

// side is one of the two lists: its calls, and what the chapter's section 'Words' says of it.
type side[T comparable] struct {
	tell  func(bits int, l ...T) ([]byte, api.Errno)
	read  func(bits int, b []byte, n int) ([]T, api.Errno)
	find  func(l []T, name string) (int, bool)
	words func(x T, bits int) bool
	laid  func(x T) []byte
	said  func(b []byte) (T, []byte, bool)
	of    func(name string) T
	name  func(x T) string
	drawn func(r *rand.Rand, bits int, name string) T
}

// snapSide is the list of snapshots.
func snapSide() side[api.Snap] {
	return side[api.Snap]{
		Snaps, ReadSnaps, FindSnap, snapWords, snapLaid, snapSaid,
		func(name string) api.Snap { return api.Snap{Name: name, L1: 131072, L1Len: 3, Size: 1536} },
		func(x api.Snap) string { return x.Name },
		snapDrawn,
	}
}

// rowSide is the list of bitmaps' rows.
func rowSide() side[api.Row] {
	return side[api.Row]{
		Rows, ReadRows, FindRow, rowWords, rowLaid, rowSaid,
		func(name string) api.Row { return api.Row{Name: name, Gran: 12, Flags: 2, At: 65536, Len: 77} },
		func(x api.Row) string { return x.Name },
		rowDrawn,
	}
}

// nameWords tells whether a name may be, byte by byte.
func nameWords(name string) bool {
	many := 0
	for _, x := range []byte(name) {
		if x == 0 {
			return false
		}
		many++
	}
	return many >= 1 && many <= maxName
}

// placeWords tells whether a place is a multiple of the cluster above 0, at most MaxFile.
func placeWords(at int64, bits int) bool {
	return at >= 1 && at <= maxFile && at>>bits<<bits == at
}

// snapWords tells whether a snapshot may be.
func snapWords(x api.Snap, bits int) bool {
	if !nameWords(x.Name) || x.Size < 0 || x.Size > maxGuest || x.Size>>9<<9 != x.Size {
		return false
	}
	switch {
	case x.L1Len == 0:
		return x.L1 == 0
	case x.L1Len < 0 || x.L1Len > 1048576:
		return false
	}
	return placeWords(x.L1, bits)
}

// rowWords tells whether a row may be.
func rowWords(x api.Row, bits int) bool {
	if !nameWords(x.Name) || x.Gran < 9 || x.Gran > 31 || !slices.Contains([]int{0, 1, 2, 3}, x.Flags) {
		return false
	}
	if x.At == 0 && x.Len == 0 {
		return true
	}
	return placeWords(x.At, bits) && x.Len >= 1 && x.Len <= 16777216
}

// snapLaid is a snapshot's bytes.
func snapLaid(x api.Snap) []byte {
	b := append([]byte{byte(len(x.Name))}, x.Name...)
	b = binary.LittleEndian.AppendUint64(b, uint64(x.L1))
	b = binary.LittleEndian.AppendUint32(b, uint32(x.L1Len))
	return binary.LittleEndian.AppendUint64(b, uint64(x.Size))
}

// rowLaid is a row's bytes.
func rowLaid(x api.Row) []byte {
	b := append([]byte{byte(len(x.Name))}, x.Name...)
	b = append(b, byte(x.Gran), byte(x.Flags))
	b = binary.LittleEndian.AppendUint64(b, uint64(x.At))
	return binary.LittleEndian.AppendUint32(b, uint32(x.Len))
}

// parted is a name, what stands behind it in so many bytes, and what is left.
func parted(b []byte, many int) (string, []byte, []byte, bool) {
	if len(b) == 0 || len(b) < 1+int(b[0])+many {
		return "", nil, nil, false
	}
	from := 1 + int(b[0])
	return string(b[1:from]), b[from : from+many], b[from+many:], true
}

// snapSaid is the snapshot that bytes begin with, be it one that may be or not.
func snapSaid(b []byte) (api.Snap, []byte, bool) {
	name, x, rest, all := parted(b, 20)
	if !all {
		return api.Snap{}, nil, false
	}
	return api.Snap{Name: name, L1: int64(binary.LittleEndian.Uint64(x)), L1Len: int(binary.LittleEndian.Uint32(x[8:])), Size: int64(binary.LittleEndian.Uint64(x[12:]))}, rest, true
}

// rowSaid is the row that bytes begin with, be it one that may be or not.
func rowSaid(b []byte) (api.Row, []byte, bool) {
	name, x, rest, all := parted(b, 14)
	if !all {
		return api.Row{}, nil, false
	}
	return api.Row{Name: name, Gran: int(x[0]), Flags: int(x[1]), At: int64(binary.LittleEndian.Uint64(x[2:])), Len: int(binary.LittleEndian.Uint32(x[10:]))}, rest, true
}

// single tells whether no two of a list have one name, each held against each.
func (s side[T]) single(l []T) bool {
	for i, x := range l {
		for _, y := range l[:i] {
			if s.name(x) == s.name(y) {
				return false
			}
		}
	}
	return true
}

// allLaid is a list's bytes.
func (s side[T]) allLaid(l []T) []byte {
	var b []byte
	for _, x := range l {
		b = append(b, s.laid(x)...)
	}
	return b
}

// wantTold is what must be told of a list.
func (s side[T]) wantTold(bits int, l []T) ([]byte, api.Errno) {
	wrong := func(x T) bool { return !s.words(x, bits) }
	if bits < 9 || bits > 16 || slices.ContainsFunc(l, wrong) || !s.single(l) {
		return nil, api.ErrArg
	}
	if len(l) > maxList {
		return nil, api.ErrLong
	}
	return s.allLaid(l), api.OK
}

// wantRead is what must be read of bytes.
func (s side[T]) wantRead(bits int, b []byte, n int) ([]T, api.Errno) {
	if bits < 9 || bits > 16 || n < 0 {
		return nil, api.ErrArg
	}
	var l []T
	for len(b) > 0 {
		x, rest, all := s.said(b)
		if !all || !s.words(x, bits) {
			return nil, noTable
		}
		l, b = append(l, x), rest
	}
	if len(l) != n || n > maxList || !s.single(l) {
		return nil, noTable
	}
	return l, api.OK
}

// held holds the list's bytes against the words, and there and back; it tells whether they were told.
func (s side[T]) held(t *testing.T, bits int, l ...T) bool {
	t.Helper()
	was := slices.Clone(l)
	want, no := s.wantTold(bits, l)
	b, e := s.tell(bits, l...)
	if !bytes.Equal(b, want) || e != no {
		t.Fatalf("%+v by %d: %v %v, want %v %v", l, bits, b, e, want, no)
	}
	if e != api.OK && b != nil {
		t.Fatalf("%+v by %d: %v beside %v", l, bits, b, e)
	}
	if !slices.Equal(l, was) {
		t.Fatalf("the list has changed: %+v, it was %+v", l, was)
	}
	if e == api.OK {
		s.heldBytes(t, bits, b, len(l))
	}
	return e == api.OK
}

// heldBytes holds what is read of bytes against the words, and there and back; it tells whether a list was read.
func (s side[T]) heldBytes(t *testing.T, bits int, b []byte, n int) bool {
	t.Helper()
	short, whole := roomy(b)
	was := bytes.Clone(whole)
	want, no := s.wantRead(bits, b, n)
	l, e := s.read(bits, short, n)
	if !bytes.Equal(whole, was) {
		t.Fatalf("the bytes have changed: %v, they were %v", whole, was)
	}
	// What was read keeps none of the bytes.
	for i := range whole {
		whole[i] = 0xee
	}
	if !slices.Equal(l, want) || e != no {
		t.Fatalf("%v by %d, %d of them: %+v %v, want %+v %v", b, bits, n, l, e, want, no)
	}
	if e != api.OK {
		if l != nil {
			t.Fatalf("%v by %d: %v beside %v", b, bits, l, e)
		}
		return false
	}
	if back, e := s.tell(bits, l...); !bytes.Equal(back, b) || e != api.OK {
		t.Fatalf("%+v by %d: %v %v, want %v", l, bits, back, e, b)
	}
	return true
}

// many is a list of n that may be, by all bits.
func (s side[T]) many(n int) []T {
	var l []T
	for i := range n {
		l = append(l, s.of("n"+strconv.Itoa(i)))
	}
	return l
}

// drawnList is a list of n that may be by these bits.
func (s side[T]) drawnList(r *rand.Rand, bits, n int) []T {
	var l []T
	for i := range n {
		// The number ahead keeps the names apart.
		l = append(l, s.drawn(r, bits, strconv.Itoa(i)+letters(r, r.Intn(maxName-3))))
	}
	return l
}

// letters is n bytes, none of them 0.
func letters(r *rand.Rand, n int) string {
	b := make([]byte, n)
	for i := range b {
		b[i] = byte(1 + r.Intn(255))
	}
	return "-" + string(b)
}

// drawnPlace is a place that may be by these bits, the greatest one often enough.
func drawnPlace(r *rand.Rand, bits int) int64 {
	if r.Intn(8) == 0 {
		return maxFile
	}
	return (1 + r.Int63n(maxFile>>bits)) << bits
}

// snapDrawn is a snapshot that may be.
func snapDrawn(r *rand.Rand, bits int, name string) api.Snap {
	x := api.Snap{Name: name, Size: r.Int63n(maxGuest/512+1) * 512}
	if r.Intn(4) > 0 {
		x.L1, x.L1Len = drawnPlace(r, bits), 1+r.Intn(1048576)
	}
	return x
}

// rowDrawn is a row that may be.
func rowDrawn(r *rand.Rand, bits int, name string) api.Row {
	x := api.Row{Name: name, Gran: 9 + r.Intn(23), Flags: r.Intn(4)}
	if r.Intn(4) > 0 {
		x.At, x.Len = drawnPlace(r, bits), 1+r.Intn(16777216)
	}
	return x
}

// oddBits are bits that there are no clusters of.
func oddBits() []int {
	return []int{8, 17, 0, 1, -1, 7, 18, 25, 31, 32, 63, 64, 65, 73, 265, -9, -16, 1 << 32, 1<<32 + 9, 1<<32 + 16, math.MaxInt, math.MinInt, math.MinInt + 9}
}

// oddCounts are numbers of things that no list has.
func oddCounts() []int {
	return []int{65, 66, 128, 256, 257, 1 << 16, 1<<31 - 1, 1 << 31, 1 << 32, 1<<32 + 1, 1 << 40, math.MaxInt - 1, math.MaxInt}
}

// names are names, and whether they may be.
func names() map[string]bool {
	x := strings.Repeat("x", maxName)
	return map[string]bool{
		"a": true, " ": true, "a b/c": true, "\x01": true, "\xff": true, "\x80\xfe\xff": true, "é": true, x[:63]: true, x: true, strings.Repeat("\xff", 64): true, strings.Repeat("é", 32): true,
		"": false, x + "x": false, strings.Repeat("é", 32) + "e": false, strings.Repeat("x", 255): false, strings.Repeat("x", 256): false, strings.Repeat("x", 257): false, strings.Repeat("x", 320): false, strings.Repeat("x", 1<<16): false,
		"\x00": false, "\x00a": false, "a\x00b": false, "a\x00": false, x[:63] + "\x00": false, "\x00" + x[:63]: false, x + "\x00": false,
	}
}

// roomy is b with spare room behind it, and that whole room.
func roomy(b []byte) (short, whole []byte) {
	whole = append(append([]byte{}, b...), "spare room behind the list's bytes"...)
	return whole[:len(b)], whole
}
