package tables

import (
	"bytes"
	"math"
	"math/rand"
	"slices"
	"strings"
	"testing"

	"palimpsest/api"
)

// both runs a test of either list, by a name.
func both(t *testing.T, snap func(t *testing.T, s side[api.Snap]), row func(t *testing.T, s side[api.Row])) {
	t.Run("snaps", func(t *testing.T) { snap(t, snapSide()) })
	t.Run("rows", func(t *testing.T) { row(t, rowSide()) })
}

// P11.1: bits are from 9 to 16, of no list too, and ahead of all else.
func TestBits(t *testing.T) { both(t, bitsOf[api.Snap], bitsOf[api.Row]) }

func bitsOf[T comparable](t *testing.T, s side[T]) {
	one := s.laid(s.of("a"))
	for bits := 9; bits <= 16; bits++ {
		if !s.held(t, bits) || !s.held(t, bits, s.of("a")) || !s.heldBytes(t, bits, nil, 0) || !s.heldBytes(t, bits, one, 1) {
			t.Error(bits)
		}
	}
	for _, bits := range oddBits() {
		for _, l := range [][]T{nil, {}, {s.of("a")}, {s.of("")}, {s.of("a"), s.of("a")}, s.many(65)} {
			if b, e := s.tell(bits, l...); b != nil || e != api.ErrArg {
				t.Errorf("%d of them by %d: %v %v", len(l), bits, b, e)
			}
		}
		for _, b := range [][]byte{nil, {}, {0}, one} {
			for _, n := range []int{-1, 0, 1, 2, 65, math.MaxInt, math.MinInt} {
				if l, e := s.read(bits, b, n); l != nil || e != api.ErrArg {
					t.Errorf("%v by %d: %v %v", b, bits, l, e)
				}
			}
		}
	}
}

// P11.1: a list has at most 64; of more the answer is ErrLong, unless one may not be or a name comes twice, wherever that is.
func TestLongLists(t *testing.T) { both(t, longOf[api.Snap], longOf[api.Row]) }

func longOf[T comparable](t *testing.T, s side[T]) {
	for _, n := range []int{0, 1, 2, 63, 64} {
		if b, e := s.tell(9, s.many(n)...); !bytes.Equal(b, s.allLaid(s.many(n))) || e != api.OK {
			t.Error(n, b, e)
		}
		s.held(t, 16, s.many(n)...)
	}
	for _, n := range []int{65, 66, 100, 1000, 70000} {
		l := s.many(n)
		if b, e := s.tell(9, l...); b != nil || e != api.ErrLong {
			t.Error(n, len(b), e)
		}
		for _, at := range []int{0, 1, 32, 63, 64, n - 1} {
			was := l[at]
			for _, wrong := range []T{s.of(""), s.of("n\x00"), s.of(s.name(l[(at+1)%n])), s.of(s.name(l[(at+50)%n]))} {
				l[at] = wrong
				if b, e := s.tell(9, l...); b != nil || e != api.ErrArg {
					t.Error(n, at, len(b), e)
				}
			}
			l[at] = was
		}
	}
}

// P11.1: no two have one name, beside each other or apart; names that are alike in part are two.
func TestNamesTwice(t *testing.T) { both(t, twiceOf[api.Snap], twiceOf[api.Row]) }

func twiceOf[T comparable](t *testing.T, s side[T]) {
	r := rand.New(rand.NewSource(111))
	for _, n := range []int{2, 3, 10, 64} {
		for i := range n {
			for _, k := range []int{0, (i + 1) % n, (i + n - 1) % n, n - 1} {
				l := s.many(n)
				// The other numbers are others: it is the name alone that is held against the rest.
				l[i] = s.drawn(r, 16, s.name(l[k]))
				if s.held(t, 16, l...) != (i == k) {
					t.Fatal(n, i, k)
				}
				if s.heldBytes(t, 16, s.allLaid(l), n) != (i == k) {
					t.Fatal("read", n, i, k)
				}
			}
		}
	}
	x := strings.Repeat("x", 63)
	if !s.held(t, 9, s.of("a"), s.of("A"), s.of("aa"), s.of("a "), s.of(" a"), s.of("é"), s.of("e"), s.of("\xc3"), s.of(x), s.of(x+"x"), s.of(x+"y")) {
		t.Error("names that are not one")
	}
	if s.held(t, 9, s.of("\xff\xfe"), s.of("a"), s.of("\xff\xfe")) || s.held(t, 9, s.of(x+"x"), s.of(x+"x")) {
		t.Error("names that are one")
	}
}

// P11.1: how many there are, is asked for: below 0 it is ErrArg, too few or too many or more than may be is ErrTable.
func TestHowMany(t *testing.T) { both(t, howManyOf[api.Snap], howManyOf[api.Row]) }

func howManyOf[T comparable](t *testing.T, s side[T]) {
	for _, many := range []int{0, 1, 2, 63, 64, 65, 66, 256, 257} {
		b := s.allLaid(s.many(many))
		for n := -3; n <= 260; n++ {
			if s.heldBytes(t, 9, b, n) != (n == many && n <= 64) {
				t.Fatal(many, n)
			}
		}
		for _, n := range oddCounts() {
			if l, e := s.read(9, b, n); l != nil || e != api.ErrTable {
				t.Error(many, n, l, e)
			}
			if l, e := s.read(9, b, -n); l != nil || e != api.ErrArg {
				t.Error(many, -n, l, e)
			}
		}
		if l, e := s.read(9, b, math.MinInt); l != nil || e != api.ErrArg {
			t.Error(l, e)
		}
	}
	for _, b := range [][]byte{nil, {}} {
		if l, e := s.read(9, b, 0); len(l) != 0 || e != api.OK {
			t.Error(l, e)
		}
		if l, e := s.read(9, b, 1); l != nil || e != api.ErrTable {
			t.Error(l, e)
		}
	}
}

// P11.3: no beginning of a list's bytes, but for all of it, is a list of as many; nor is one with a byte more.
func TestBeginnings(t *testing.T) { both(t, beginningsOf[api.Snap], beginningsOf[api.Row]) }

func beginningsOf[T comparable](t *testing.T, s side[T]) {
	r := rand.New(rand.NewSource(112))
	lists := [][]T{{s.of("a")}, {s.of(strings.Repeat("x", 64))}, {s.of("a"), s.of("b")}, s.many(64)}
	for range 20 {
		lists = append(lists, s.drawnList(r, 12, 1+r.Intn(7)))
	}
	for _, l := range lists {
		b, e := s.tell(12, l...)
		if e != api.OK {
			t.Fatal(l, e)
		}
		for long := range b {
			// Cut with room behind, in which the rest still stands.
			if back, e := s.read(12, b[:long], len(l)); back != nil || e != api.ErrTable {
				t.Fatalf("%d of %d bytes: %v %v", long, len(b), back, e)
			}
			s.heldBytes(t, 12, b[:long], len(l)-1)
		}
		for x := range 256 {
			more := append(bytes.Clone(b), byte(x))
			if s.heldBytes(t, 12, more, len(l)) || s.heldBytes(t, 12, more, len(l)+1) {
				t.Fatal("a byte more", x)
			}
		}
		if !s.heldBytes(t, 12, b, len(l)) {
			t.Fatal("all of it")
		}
	}
}

// P11.1 and P11.3: of a list's bytes with any one byte changed to any other: what is no list's is refused, what is another's is read as that.
func TestChangedBytes(t *testing.T) { both(t, changedOf[api.Snap], changedOf[api.Row]) }

func changedOf[T comparable](t *testing.T, s side[T]) {
	r := rand.New(rand.NewSource(113))
	good, bad := 0, 0
	for _, l := range [][]T{{s.of("a")}, {s.of("ab"), s.of("c")}, {s.of("aa"), s.of("ab"), s.of("bb")}, s.drawnList(r, 9, 3)} {
		b := s.allLaid(l)
		for at := range b {
			was := b[at]
			for x := range 256 {
				b[at] = byte(x)
				for n := len(l) - 1; n <= len(l)+1; n++ {
					if s.heldBytes(t, 9, b, n) {
						good++
					} else {
						bad++
					}
				}
			}
			b[at] = was
		}
	}
	if good < 1000 || bad < 1000 {
		t.Error("too few of one kind", good, bad)
	}
}

// P11.1: a name's length that reaches behind the bytes, or is above what a name may have, is refused.
func TestReadNameLengths(t *testing.T) { both(t, nameLengthsOf[api.Snap], nameLengthsOf[api.Row]) }

func nameLengthsOf[T comparable](t *testing.T, s side[T]) {
	behind := s.laid(s.of("a"))[2:]
	for long := range 256 {
		for _, there := range []int{0, 1, long - 1, long, long + 1} {
			if there < 0 {
				continue
			}
			b := append([]byte{byte(long)}, strings.Repeat("q", there)...)
			if s.heldBytes(t, 9, append(b, behind...), 1) != (there == long && 1 <= long && long <= 64) {
				t.Error(long, there)
			}
			s.heldBytes(t, 9, b, 1)
		}
	}
}

// P11.3: lists that are drawn go there and back, by all bits.
func TestDrawnLists(t *testing.T) { both(t, drawnOf[api.Snap], drawnOf[api.Row]) }

func drawnOf[T comparable](t *testing.T, s side[T]) {
	r := rand.New(rand.NewSource(114))
	for range 400 {
		bits := 9 + r.Intn(8)
		l := s.drawnList(r, bits, r.Intn(65))
		if !s.held(t, bits, l...) {
			t.Fatal("refused", l)
		}
		b, _ := s.tell(bits, l...)
		if back, e := s.read(bits, b, len(l)); !slices.Equal(back, l) || e != api.OK {
			t.Fatal(back, e)
		}
		// By other bits the places may be none, or still some.
		s.held(t, 9+r.Intn(8), l...)
		s.heldBytes(t, 9+r.Intn(8), b, len(l))
	}
}

// P11.1: bytes that are drawn, or a list's with some changed, cut or joined, are no list's, or just the bytes of what is read.
func TestDrawnBytes(t *testing.T) { both(t, drawnBytesOf[api.Snap], drawnBytesOf[api.Row]) }

func drawnBytesOf[T comparable](t *testing.T, s side[T]) {
	r := rand.New(rand.NewSource(115))
	for range 4000 {
		var b []byte
		n := r.Intn(4)
		switch r.Intn(3) {
		case 0:
			b = make([]byte, r.Intn(90))
			r.Read(b)
		case 1:
			b = s.allLaid(s.drawnList(r, 9, n))
			for range r.Intn(3) {
				if len(b) > 0 {
					b[r.Intn(len(b))] = byte(r.Intn(256))
				}
			}
		case 2:
			l := s.drawnList(r, 9, n)
			b = append(s.allLaid(l), s.allLaid(l[:r.Intn(n+1)])...)
		}
		for k := -1; k < 7; k++ {
			s.heldBytes(t, 9, b, k)
		}
	}
}

// P11.1: what is told is new memory each time: neither writing over it nor over the list changes another answer.
func TestAnswersAreNew(t *testing.T) { both(t, newOf[api.Snap], newOf[api.Row]) }

func newOf[T comparable](t *testing.T, s side[T]) {
	l := s.many(3)
	room := append(slices.Clone(l), s.of("spare"))
	want := s.allLaid(l)
	one, _ := s.tell(9, room[:3]...)
	two, _ := s.tell(9, room[:3]...)
	if !slices.Equal(room, append(slices.Clone(l), s.of("spare"))) {
		t.Error("the list has changed", room)
	}
	for i := range one[:cap(one)] {
		one[:cap(one)][i] = 0xee
	}
	clear(room)
	if !bytes.Equal(two, want) {
		t.Error(two)
	}
	first, _ := s.read(9, want, 3)
	second, _ := s.read(9, want, 3)
	clear(first[:cap(first)])
	if !slices.Equal(second, l) || !bytes.Equal(want, s.allLaid(l)) {
		t.Error(second)
	}
}

// P11.2: the first one with a name, wherever it is, in whatever list, one that may not be as well.
func TestFind(t *testing.T) { both(t, findOf[api.Snap], findOf[api.Row]) }

func findOf[T comparable](t *testing.T, s side[T]) {
	var zero T
	l := []T{s.of("first"), s.of("twice"), s.of("a\x00b"), s.of("twice"), s.of("\xff"), zero, zero, s.of(strings.Repeat("x", 99)), s.of("last")}
	was := slices.Clone(l)
	for _, r := range []struct {
		l    []T
		name string
		at   int
		ok   bool
	}{
		{l, "first", 0, true}, {l, "last", 8, true}, {l, "twice", 1, true}, {l[2:], "twice", 1, true}, {l[:8], "last", 0, false}, {l[1:], "first", 0, false},
		{l, "a\x00b", 2, true}, {l, "a", 0, false}, {l, "\xff", 4, true}, {l, "\xfe", 0, false}, {l, "", 5, true}, {l[:5], "", 0, false}, {l, strings.Repeat("x", 99), 7, true}, {l, strings.Repeat("x", 98), 0, false},
		{l, "First", 0, false}, {l, "firs", 0, false}, {l, "first ", 0, false}, {l, "none", 0, false},
		{nil, "first", 0, false}, {nil, "", 0, false}, {[]T{}, "first", 0, false}, {[]T{}, "", 0, false}, {[]T{zero}, "", 0, true}, {[]T{s.of("a")}, "a", 0, true}, {[]T{s.of("a")}, "b", 0, false},
	} {
		if at, ok := s.find(r.l, r.name); at != r.at || ok != r.ok {
			t.Errorf("%q: %d %v, want %d %v", r.name, at, ok, r.at, r.ok)
		}
	}
	many := s.many(1000)
	for i, x := range many {
		if at, ok := s.find(many, s.name(x)); at != i || !ok {
			t.Fatal(i, at, ok)
		}
	}
	if !slices.Equal(l, was) {
		t.Error("the list has changed", l)
	}
}
