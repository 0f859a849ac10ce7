package wire

import (
	"bytes"
	"math"
	"strings"
	"testing"

	"palimpsest/api"
)

// places are where fields are asked for, of at most some ten bytes: around both ends, and huge ones, at which sums wrap round.
func places(long int) []int {
	l := []int{math.MinInt, math.MinInt + 1, math.MinInt + 8, math.MaxInt, math.MaxInt - 1, math.MaxInt - 3, math.MaxInt - 8, math.MaxInt - 1<<20 - 4, 1 << 32, -1 << 32, 1<<32 + 1}
	for at := -10; at <= long+10; at++ {
		l = append(l, at)
	}
	return l
}

// filled is bytes that all differ, and none of which is a nought.
func filled(long int) []byte {
	b := make([]byte, long)
	for i := range b {
		b[i] = byte(200 + i)
	}
	return b
}

// roomy is b with spare room behind it, and that whole room.
func roomy(b []byte) (short, whole []byte) {
	whole = append(append([]byte{}, b...), bytes.Repeat([]byte{77}, 32)...)
	return whole[:len(b)], whole
}

// wantNumber is what the document says of Get, byte by byte.
func wantNumber(b []byte, at, n int) (uint64, api.Errno) {
	if n < 1 || n > 8 {
		return 0, api.ErrArg
	}
	for i := 0; i < n; i++ {
		if at < 0 || at >= len(b) || at+i >= len(b) || at+i < 0 {
			return 0, api.ErrRange
		}
	}
	var x, worth uint64 = 0, 1
	for i := 0; i < n; i++ {
		x += worth * uint64(b[at+i])
		worth *= 256
	}
	return x, api.OK
}

// P1.1: Get answers at every place and every width what the document says, and changes nothing.
func TestGetEverywhere(t *testing.T) {
	for long := 0; long <= 10; long++ {
		for _, at := range places(long) {
			for _, n := range []int{math.MinInt, -8, -1, 0, 1, 2, 3, 4, 5, 6, 7, 8, 9, 16, 1 << 20, math.MaxInt} {
				b, whole := roomy(filled(long))
				was := bytes.Clone(whole)
				want, wrong := wantNumber(b, at, n)
				if x, e := Get(b, at, n); x != want || e != wrong {
					t.Errorf("Get of %d bytes at %d, %d: %d %v, not %d %v", long, at, n, x, e, want, wrong)
				}
				if !bytes.Equal(whole, was) {
					t.Errorf("Get of %d bytes at %d, %d has changed them", long, at, n)
				}
			}
		}
	}
}

// P1.1: rows that are worked out by hand.
func TestGetRows(t *testing.T) {
	b := []byte{1, 2, 3, 4, 5, 6, 7, 8, 255}
	for _, r := range []struct {
		b     []byte
		at, n int
		x     uint64
		e     api.Errno
	}{
		{b, 0, 1, 1, api.OK},
		{b, 8, 1, 255, api.OK},
		{b, 0, 2, 0x0201, api.OK},
		{b, 0, 3, 0x030201, api.OK},
		{b, 0, 4, 0x04030201, api.OK},
		{b, 1, 5, 0x0605040302, api.OK},
		{b, 1, 6, 0x070605040302, api.OK},
		{b, 1, 7, 0x08070605040302, api.OK},
		{b, 0, 8, 0x0807060504030201, api.OK},
		{b, 1, 8, 0xff08070605040302, api.OK},
		{b, 2, 8, 0, api.ErrRange},
		{b, 9, 1, 0, api.ErrRange},
		{b, -1, 1, 0, api.ErrRange},
		{b, 0, 0, 0, api.ErrArg},
		{b, 0, 9, 0, api.ErrArg},
		{b, -1, 9, 0, api.ErrArg},
		{b, 99, 0, 0, api.ErrArg},
		{nil, 0, 1, 0, api.ErrRange},
		{nil, 0, 0, 0, api.ErrArg},
		{[]byte{}, 0, 1, 0, api.ErrRange},
		{[]byte{0, 2, 1, 0}, 1, 2, 258, api.OK},
		{[]byte{0, 2, 1, 0}, 1, 4, 0, api.ErrRange},
		{[]byte{0, 2, 1, 0}, 0, 9, 0, api.ErrArg},
	} {
		if x, e := Get(r.b, r.at, r.n); x != r.x || e != r.e {
			t.Errorf("Get(%v, %d, %d): %d %v", r.b, r.at, r.n, x, e)
		}
	}
}

// edges are numbers around what n bytes hold, of every n.
func edges() []uint64 {
	l := []uint64{0, 1, 2, 127, 128, 0x0102030405060708, 0xf1e2d3c4b5a69788, math.MaxUint64 - 1, math.MaxUint64}
	for n := 1; n < 8; n++ {
		most := uint64(1)<<(8*n) - 1
		l = append(l, most-1, most, most+1, most+2, most<<8)
	}
	return l
}

// P1.1 and P1.4: Set answers everywhere what the document says; Get behind it is the number; all other bytes stay, and all of them where it is refused.
func TestSetEverywhere(t *testing.T) {
	for long := 0; long <= 10; long++ {
		for _, at := range places(long) {
			for _, n := range []int{math.MinInt, -1, 0, 1, 2, 3, 4, 5, 6, 7, 8, 9, math.MaxInt} {
				for _, x := range edges() {
					setOnce(t, long, at, n, x)
				}
			}
		}
	}
}

func setOnce(t *testing.T, long, at, n int, x uint64) {
	b, whole := roomy(filled(long))
	want := bytes.Clone(whole)
	_, wrong := wantNumber(b, at, n)
	if wrong == api.OK && n < 8 && x >= 1<<(8*n) {
		wrong = api.ErrLong
	}
	if wrong == api.OK {
		rest := x
		for i := 0; i < n; i++ {
			want[at+i] = byte(rest % 256)
			rest /= 256
		}
	}
	if e := Set(b, at, n, x); e != wrong || !bytes.Equal(whole, want) {
		t.Errorf("Set of %d bytes at %d, %d, %d: %v, not %v: %v, not %v", long, at, n, x, e, wrong, whole, want)
	}
	if back, e := Get(b, at, n); wrong == api.OK && (back != x || e != api.OK) {
		t.Errorf("Get behind Set at %d, %d, %d: %d %v", at, n, x, back, e)
	}
}

// P1.1: where several errors apply, the first one of the chapter's order is told.
func TestSetErrorsInOrder(t *testing.T) {
	b := filled(4)
	for _, r := range []struct {
		at, n int
		x     uint64
		e     api.Errno
	}{
		{1, 2, 258, api.OK},
		{0, 1, 255, api.OK},
		{0, 1, 256, api.ErrLong},
		{0, 3, 1<<24 - 1, api.OK},
		{0, 3, 1 << 24, api.ErrLong},
		{3, 2, 1 << 16, api.ErrRange},
		{-1, 1, 256, api.ErrRange},
		{4, 1, 0, api.ErrRange},
		{-1, 0, 256, api.ErrArg},
		{99, 9, math.MaxUint64, api.ErrArg},
		{0, 8, 0, api.ErrRange},
	} {
		if e := Set(bytes.Clone(b), r.at, r.n, r.x); e != r.e {
			t.Errorf("Set at %d, %d, %d: %v", r.at, r.n, r.x, e)
		}
	}
	if e := Set(nil, 0, 1, 0); e != api.ErrRange {
		t.Error(e)
	}
}

// wantText is what the document says of Text, byte by byte.
func wantText(b []byte, at, most int) (string, api.Errno) {
	if most < 0 || most > 1<<20 {
		return "", api.ErrArg
	}
	if at < 0 || at > len(b) || len(b[at:]) < 4+most {
		return "", api.ErrRange
	}
	field := b[at : at+4+most]
	long := int64(field[0]) + int64(field[1])<<8 + int64(field[2])<<16 + int64(field[3])<<24
	if long > int64(most) {
		return "", api.ErrWire
	}
	for _, x := range field[4+long:] {
		if x != 0 {
			return "", api.ErrWire
		}
	}
	return string(field[4 : 4+long]), api.OK
}

// P1.2: Text answers at every place, of every width, over bytes of many forms, what the document says, and changes nothing.
func TestTextEverywhere(t *testing.T) {
	forms := [][]byte{
		nil, {}, {0, 0, 0}, {0, 0, 0, 0}, {0, 0, 0, 0, 0}, {0, 0, 0, 0, 1}, {1, 0, 0, 0}, {1, 0, 0, 0, 0},
		{1, 0, 0, 0, 'a', 'b', 0}, {2, 0, 0, 0, 'a', 'b', 0}, {3, 0, 0, 0, 'a', 'b', 0}, {3, 0, 0, 0, 'a', 'b', 'c'}, {4, 0, 0, 0, 'a', 'b', 'c'},
		{0, 1, 0, 0, 0, 0, 0}, {0, 0, 1, 0, 0, 0, 0}, {0, 0, 0, 1, 0, 0, 0}, {255, 255, 255, 255, 0, 0, 0}, {0, 0, 0, 128, 0, 0, 0},
		{9, 9, 1, 0, 0, 0, 200, 0, 9, 9}, {2, 0, 0, 0, 0, 0, 0, 0}, {2, 0, 0, 0, 0, 255, 0, 0}, {0, 0, 0, 0, 0, 0, 0, 5},
	}
	for _, form := range forms {
		for _, at := range places(len(form)) {
			for _, most := range []int{math.MinInt, -1, 0, 1, 2, 3, 4, 5, 1 << 20, 1<<20 + 1, math.MaxInt - 3, math.MaxInt} {
				b, whole := roomy(form)
				was := bytes.Clone(whole)
				want, wrong := wantText(b, at, most)
				if s, e := Text(b, at, most); s != want || e != wrong {
					t.Errorf("Text(%v, %d, %d): %q %v, not %q %v", form, at, most, s, e, want, wrong)
				}
				if !bytes.Equal(whole, was) {
					t.Errorf("Text(%v, %d, %d) has changed its bytes", form, at, most)
				}
			}
		}
	}
}

// P1.2: rows that are worked out by hand, the errors' order among them.
func TestTextRows(t *testing.T) {
	for _, r := range []struct {
		b        []byte
		at, most int
		s        string
		e        api.Errno
	}{
		{[]byte{2, 0, 0, 0, 'a', 'b', 0}, 0, 3, "ab", api.OK},
		{[]byte{3, 0, 0, 0, 'a', 'b', 'c'}, 0, 3, "abc", api.OK},
		{[]byte{0, 0, 0, 0, 0, 0, 0}, 0, 3, "", api.OK},
		{[]byte{0, 0, 0, 0}, 0, 0, "", api.OK},
		{[]byte{1, 0, 0, 0}, 0, 0, "", api.ErrWire},
		{[]byte{4, 0, 0, 0, 'a', 'b', 'c'}, 0, 3, "", api.ErrWire},
		{[]byte{4, 0, 0, 0, 'a', 'b', 'c', 'd'}, 0, 3, "", api.ErrWire},
		{[]byte{1, 0, 0, 0, 'a', 'b', 0}, 0, 3, "", api.ErrWire},
		{[]byte{1, 0, 0, 0, 'a', 0, 'c'}, 0, 3, "", api.ErrWire},
		{[]byte{1, 0, 0, 0, 'a', 0, 0, 'd'}, 0, 3, "a", api.OK},
		{[]byte{9, 2, 0, 0, 0, 0, 0, 0}, 1, 3, "\x00\x00", api.OK},
		{[]byte{4, 0, 0, 0, 'a', 'b'}, 0, 3, "", api.ErrRange},
		{[]byte{4, 0, 0, 0, 'a', 'b', 'c'}, 1, 3, "", api.ErrRange},
		{[]byte{4, 0, 0, 0, 'a', 'b', 'c'}, -1, 3, "", api.ErrRange},
		{[]byte{4, 0, 0, 0, 'a', 'b', 'c'}, -1, -1, "", api.ErrArg},
		{[]byte{4, 0, 0, 0, 'a', 'b', 'c'}, 99, 1<<20 + 1, "", api.ErrArg},
		{nil, 0, 0, "", api.ErrRange},
		{nil, 0, 1 << 20, "", api.ErrRange},
	} {
		if s, e := Text(r.b, r.at, r.most); s != r.s || e != r.e {
			t.Errorf("Text(%v, %d, %d): %q %v", r.b, r.at, r.most, s, e)
		}
	}
}

// P1.2 and P1.4: SetText answers everywhere what the document says; Text behind it is the text; all other bytes stay, and all of them where it is refused.
func TestSetTextEverywhere(t *testing.T) {
	for long := 0; long <= 12; long++ {
		for _, at := range places(long) {
			for _, most := range []int{math.MinInt, -1, 0, 1, 2, 3, 4, 5, 1 << 20, 1<<20 + 1, math.MaxInt - 3, math.MaxInt} {
				for _, s := range []string{"", "a", "ab", "abc", "abcd", "abcde", "\x00", "a\x00", "\xff\x80", "ä", "a\x00b\x00"} {
					setTextOnce(t, long, at, most, s)
				}
			}
		}
	}
}

func setTextOnce(t *testing.T, long, at, most int, s string) {
	b, whole := roomy(filled(long))
	want := bytes.Clone(whole)
	wrong := api.OK
	switch {
	case most < 0 || most > 1<<20:
		wrong = api.ErrArg
	case at < 0 || at > long || long-at < 4+most:
		wrong = api.ErrRange
	case len(s) > most:
		wrong = api.ErrLong
	default:
		field := string([]byte{byte(len(s)), 0, 0, 0}) + s + strings.Repeat("\x00", most-len(s))
		want = append(append(bytes.Clone(want[:at]), field...), want[at+len(field):]...)
	}
	if e := SetText(b, at, most, s); e != wrong || !bytes.Equal(whole, want) {
		t.Errorf("SetText of %d bytes at %d, %d, %q: %v, not %v: %v, not %v", long, at, most, s, e, wrong, whole, want)
	}
	if back, e := Text(b, at, most); wrong == api.OK && (back != s || e != api.OK) {
		t.Errorf("Text behind SetText at %d, %d, %q: %q %v", at, most, s, back, e)
	}
}

// P1.2: where several errors apply, the first one of the chapter's order is told.
func TestSetTextErrorsInOrder(t *testing.T) {
	for _, r := range []struct {
		long, at, most int
		s              string
		e              api.Errno
	}{
		{7, 0, 3, "abc", api.OK},
		{7, 0, 3, "abcd", api.ErrLong},
		{4, 0, 0, "", api.OK},
		{4, 0, 0, "a", api.ErrLong},
		{6, 0, 3, "abcd", api.ErrRange},
		{7, 1, 3, "abcd", api.ErrRange},
		{7, -1, 3, "", api.ErrRange},
		{7, -1, -1, "a", api.ErrArg},
		{7, 99, 1<<20 + 1, "a", api.ErrArg},
		{0, 0, 0, "", api.ErrRange},
		{0, 0, -1, "", api.ErrArg},
	} {
		if e := SetText(filled(r.long), r.at, r.most, r.s); e != r.e {
			t.Errorf("SetText of %d bytes at %d, %d, %q: %v", r.long, r.at, r.most, r.s, e)
		}
	}
}

// P1.2: of the example: the field is written with its noughts.
func TestSetTextRow(t *testing.T) {
	b := filled(7)
	if e := SetText(b, 0, 3, "ab"); e != api.OK || !bytes.Equal(b, []byte{2, 0, 0, 0, 'a', 'b', 0}) {
		t.Error(b, e)
	}
	if e := SetText(b, 0, 3, ""); e != api.OK || !bytes.Equal(b, make([]byte, 7)) {
		t.Error(b, e)
	}
}

// P1.2 and P1.4: the widest field takes the longest text, whose length has three bytes, and none that is longer.
func TestWidestText(t *testing.T) {
	const most = 1 << 20
	b := bytes.Repeat([]byte{9}, most+6)
	for _, long := range []int{most, most - 1, 1 << 16, 1<<16 - 1, 256, 255, 0} {
		s := strings.Repeat("xyz", long)[:long]
		if e := SetText(b, 1, most, s); e != api.OK {
			t.Fatal(long, e)
		}
		if b[0] != 9 || b[most+5] != 9 || b[1] != byte(long) || b[2] != byte(long>>8) || b[3] != byte(long>>16) || b[4] != 0 {
			t.Fatal(long, b[:5], b[most+5])
		}
		if back, e := Text(b, 1, most); back != s || e != api.OK {
			t.Fatal(long, len(back), e)
		}
	}
	was := bytes.Clone(b)
	if e := SetText(b, 1, most, strings.Repeat("x", most+1)); e != api.ErrLong {
		t.Error(e)
	}
	if e := SetText(b, 3, most, ""); e != api.ErrRange {
		t.Error(e)
	}
	if e := SetText(b, 0, most+1, ""); e != api.ErrArg {
		t.Error(e)
	}
	if _, e := Text(b, 0, most+1); e != api.ErrArg {
		t.Error(e)
	}
	if !bytes.Equal(b, was) {
		t.Error("what was refused has changed bytes")
	}
	b[most+4] = 1
	if _, e := Text(b, 1, most); e != api.ErrWire {
		t.Error(e)
	}
}

// P1.2: an answer is the text alone, whatever becomes of the bytes.
func TestTextIsKept(t *testing.T) {
	b := []byte{2, 0, 0, 0, 'a', 'b', 0}
	s, _ := Text(b, 0, 3)
	clear(b)
	if s != "ab" {
		t.Error(s)
	}
}

// P1.3: Noughts answers of every from and until what the document says, and changes nothing.
func TestNoughtsEverywhere(t *testing.T) {
	for _, form := range [][]byte{nil, {}, {0}, {1}, {0, 0, 0}, {1, 0, 0, 2}, {0, 0, 255, 0, 0}, {0, 128}, {1, 0}} {
		for _, from := range places(len(form)) {
			for _, until := range places(len(form)) {
				b, whole := roomy(form)
				was := bytes.Clone(whole)
				want, wrong := true, api.OK
				if from < 0 || until < from || len(form) < until {
					want, wrong = false, api.ErrRange
				}
				for i := from; wrong == api.OK && i < until; i++ {
					want = want && form[i] == 0
				}
				if ok, e := Noughts(b, from, until); ok != want || e != wrong {
					t.Errorf("Noughts(%v, %d, %d): %v %v, not %v %v", form, from, until, ok, e, want, wrong)
				}
				if !bytes.Equal(whole, was) {
					t.Errorf("Noughts(%v, %d, %d) has changed its bytes", form, from, until)
				}
			}
		}
	}
}

// P1.3: rows that are worked out by hand.
func TestNoughtsRows(t *testing.T) {
	b := []byte{1, 0, 0, 2}
	for _, r := range []struct {
		from, until int
		ok          bool
		e           api.Errno
	}{
		{1, 3, true, api.OK},
		{0, 3, false, api.OK},
		{0, 1, false, api.OK},
		{1, 4, false, api.OK},
		{3, 4, false, api.OK},
		{0, 4, false, api.OK},
		{0, 0, true, api.OK},
		{2, 2, true, api.OK},
		{4, 4, true, api.OK},
		{5, 5, false, api.ErrRange},
		{2, 1, false, api.ErrRange},
		{4, 3, false, api.ErrRange},
		{1, 5, false, api.ErrRange},
		{-1, 0, false, api.ErrRange},
		{-1, -1, false, api.ErrRange},
		{0, -1, false, api.ErrRange},
		{0, math.MaxInt, false, api.ErrRange},
		{math.MinInt, 1, false, api.ErrRange},
	} {
		if ok, e := Noughts(b, r.from, r.until); ok != r.ok || e != r.e {
			t.Errorf("Noughts at %d, %d: %v %v", r.from, r.until, ok, e)
		}
	}
}

// P1.3: Join tells the fields' bytes one behind the other, with none, empty and nil ones among them.
func TestJoin(t *testing.T) {
	for i, r := range []struct {
		fields [][]byte
		want   []byte
	}{
		{nil, nil},
		{[][]byte{}, nil},
		{[][]byte{nil}, nil},
		{[][]byte{{}, nil, {}}, nil},
		{[][]byte{{1}}, []byte{1}},
		{[][]byte{{1, 2}, {3}}, []byte{1, 2, 3}},
		{[][]byte{{3}, {1, 2}}, []byte{3, 1, 2}},
		{[][]byte{nil, {0}, {}, {0, 7}, nil}, []byte{0, 0, 7}},
		{[][]byte{{1}, {1}, {1}}, []byte{1, 1, 1}},
	} {
		if x := Join(r.fields...); !bytes.Equal(x, r.want) {
			t.Errorf("%d: %v", i, x)
		}
	}
	if x := Join(); len(x) != 0 {
		t.Error(x)
	}
	var many [][]byte
	var want []byte
	for i := range 1000 {
		f := bytes.Repeat([]byte{byte(i)}, i%7)
		many = append(many, f)
		want = append(want, f...)
	}
	if x := Join(many...); !bytes.Equal(x, want) {
		t.Error("many fields")
	}
}

// P1.3: what Join answers is new memory, and what it is handed stays, spare room included.
func TestJoinIsNew(t *testing.T) {
	a, wholeA := roomy([]byte{1, 2})
	b, wholeB := roomy([]byte{3})
	wasA, wasB := bytes.Clone(wholeA), bytes.Clone(wholeB)
	for _, x := range [][]byte{Join(a), Join(a, b), Join(a, a), Join(a, nil), Join(nil, b)} {
		x = append(x, 9)
		clear(x)
		if !bytes.Equal(wholeA, wasA) || !bytes.Equal(wholeB, wasB) {
			t.Fatal(wholeA, wholeB)
		}
	}
	x, y := Join(a, b), Join(a, b)
	clear(x)
	if !bytes.Equal(y, []byte{1, 2, 3}) {
		t.Error(y)
	}
}

// P1.4: fields beside one another do not touch each other, whichever is written last.
func TestFieldsBesideEachOther(t *testing.T) {
	for turn := range 3 {
		b := filled(24)
		writes := []func() api.Errno{
			func() api.Errno { return Set(b, 2, 3, 0x0a0b0c) },
			func() api.Errno { return SetText(b, 5, 6, "palim") },
			func() api.Errno { return Set(b, 15, 8, math.MaxUint64) },
		}
		for i := range writes {
			if e := writes[(turn+i)%3](); e != api.OK {
				t.Fatal(e)
			}
		}
		want := []byte{200, 201, 12, 11, 10, 5, 0, 0, 0, 'p', 'a', 'l', 'i', 'm', 0, 255, 255, 255, 255, 255, 255, 255, 255, 223}
		if !bytes.Equal(b, want) {
			t.Error(turn, b)
		}
		x, e := Get(b, 2, 3)
		s, f := Text(b, 5, 6)
		y, g := Get(b, 15, 8)
		if x != 0x0a0b0c || s != "palim" || y != math.MaxUint64 || e != api.OK || f != api.OK || g != api.OK {
			t.Error(turn, x, s, y, e, f, g)
		}
	}
}
