package huff

import (
	"bytes"
	"math"
	"math/big"
	"math/rand"
	"slices"
	"strings"
	"testing"

	"palimpsest/api"
	"palimpsest/bits"
)

// made is a code that must be there.
func made(t *testing.T, lengths []int) *Code {
	t.Helper()
	c, e := New(lengths...)
	if c == nil || e != api.OK {
		t.Fatalf("%v: %v %v", lengths, c, e)
	}
	return c
}

// packed is a row of bits as bytes, the first one the lowest, bits of the same kind as fill behind them.
func packed(row, fill string) []byte {
	for len(row)%8 != 0 {
		row += fill
	}
	b := make([]byte, len(row)/8)
	for i, c := range row {
		b[i/8] |= byte(c-'0') << (i % 8)
	}
	return b
}

// ending is a reader that has just the row left, at the end of its bytes, with so many bytes ahead of it.
func ending(row string, ahead int) (*bits.Reader, int) {
	from := 8*ahead + (8-len(row)%8)%8
	r := bits.NewReader(packed(strings.Repeat("1", from)+row, ""))
	r.Skip(from)
	return r, from
}

// taken is what Take must tell of a row, by the words of the chapter.
func taken(codes []string, row string) (symbol, n int, e api.Errno) {
	for n := 1; n <= len(row); n++ {
		for s, c := range codes {
			if c == row[:n] {
				return s, n, api.OK
			}
		}
	}
	for _, c := range codes {
		if c != "" && strings.HasPrefix(c, row) {
			return 0, 0, api.ErrBits
		}
	}
	return 0, 0, api.ErrCode
}

// takes holds Take at a row that ends with its reader against what it must tell.
func takes(t *testing.T, c *Code, codes []string, row string, ahead int) {
	t.Helper()
	symbol, n, want := taken(codes, row)
	r, from := ending(row, ahead)
	if s, e := c.Take(r); s != symbol || e != want {
		t.Errorf("%v: Take of %q: %d %v, not %d %v", codes, row, s, e, symbol, want)
	}
	if r.At() != from+n {
		t.Errorf("%v: Take of %q: from %d to %d, not %d further", codes, row, from, r.At(), n)
	}
}

// allRows are all rows of at most n bits.
func allRows(n int) []string {
	l := []string{""}
	for i := 0; i < len(l); i++ {
		if len(l[i]) < n {
			l = append(l, l[i]+"0", l[i]+"1")
		}
	}
	return l
}

// P3.3: Take, of all short lists of lengths, whole and short, at all rows of few bits that end there.
func TestTakeOfAll(t *testing.T) {
	short := allRows(6)
	for _, l := range allLengths(4, 4) {
		if fractions(l).Cmp(big.NewRat(1, 1)) > 0 {
			continue
		}
		c, codes := made(t, l), rows(l)
		for _, row := range short {
			takes(t, c, codes, row, len(row)%3)
		}
	}
}

// P3.3: Take, of long codes too, at the last bit that is there and past it: each code, each beginning of it, each with its last bit turned, with nothing and with something behind it.
func TestTakeAtTheEnd(t *testing.T) {
	for _, l := range samples() {
		c, codes := made(t, l), rows(l)
		tried := map[string]bool{}
		try := func(row string) {
			if !tried[row] {
				tried[row] = true
				takes(t, c, codes, row, len(row)%4)
			}
		}
		try("")
		for _, code := range codes {
			for n := range len(code) + 1 {
				row := code[:n]
				try(row)
				try(row + "0")
				try(row + "1")
				if n == len(code) {
					try(row + strings.Repeat("01", 20))
				}
			}
		}
		try(strings.Repeat("1", 14))
		try(strings.Repeat("1", 15))
		try(strings.Repeat("1", 16))
		try(strings.Repeat("1", 70))
		try(strings.Repeat("0", 70))
	}
}

// P3.3: the rows of the chapter.
func TestExamples(t *testing.T) {
	c := made(t, []int{2, 1, 3, 3})
	w := bits.NewWriter()
	if n, e := c.Put(w, 0, 1, 3); n != 6 || e != api.OK || !bytes.Equal(w.Bytes(), []byte{0x39}) {
		t.Error(n, e, w.Bytes())
	}
	if n, e := c.Put(w, 4); n != 0 || e != api.ErrArg || w.Len() != 6 {
		t.Error(n, e, w.Len())
	}
	if s, e := made(t, []int{1}).Take(bits.NewReader([]byte{1})); s != 0 || e != api.ErrCode {
		t.Error(s, e)
	}
	two := made(t, []int{2, 2})
	if s, e := two.Take(bits.NewReader(nil)); s != 0 || e != api.ErrBits {
		t.Error(s, e)
	}
	if s, e := two.Take(bits.NewReader([]byte{1})); s != 0 || e != api.ErrCode {
		t.Error(s, e)
	}
}

// P3.4: no code is the beginning of another one; of whole lengths each row of 15 bits begins with one, and of short ones as many do as the weight says.
func TestEachRowBeginsWithOne(t *testing.T) {
	for name, l := range samples() {
		codes, _ := Codes(l...)
		begun := make([]int, 1<<15)
		for s, n := range l {
			if n == 0 {
				continue
			}
			for i := range 1 << (15 - n) {
				begun[codes[s]<<(15-n)+uint64(i)]++
			}
		}
		c := made(t, l)
		weight, _ := Weight(l...)
		ok := 0
		for row, many := range begun {
			if many > 1 {
				t.Errorf("%s: row %b begins with %d codes", name, row, many)
			}
			turned := bits.Turned(uint64(row), 15)
			r := bits.NewReader([]byte{byte(turned), byte(turned>>8) | 128})
			s, e := c.Take(r)
			if (e == api.OK) != (many == 1) || e == api.OK && codes[s] != uint64(row)>>(15-l[s]) {
				t.Errorf("%s: row %b: %d %v, and %d begin it", name, row, s, e, many)
			}
			if e == api.OK {
				ok++
			} else if e != api.ErrCode || r.At() != 0 {
				t.Errorf("%s: row %b: %v at %d", name, row, e, r.At())
			}
		}
		if ok != weight {
			t.Errorf("%s: %d rows begin with a code, the weight is %d", name, ok, weight)
		}
	}
}

// P3.3, P3.4: what was put is taken as it was, from any place in a byte on, one by one or many at a time; how many bits is told.
func TestThereAndBack(t *testing.T) {
	r := rand.New(rand.NewSource(4))
	for name, l := range samples() {
		c, codes := made(t, l), rows(l)
		var have []int
		for s, n := range l {
			if n > 0 {
				have = append(have, s)
			}
		}
		var symbols []int
		for i := 0; len(have) > 0 && i < 500; i++ {
			symbols = append(symbols, have[r.Intn(len(have))])
		}
		for from := range 9 {
			row := strings.Repeat("1", from)
			w, one := bits.NewWriter(), bits.NewWriter()
			w.Put(1<<from-1, from)
			one.Put(1<<from-1, from)
			for _, s := range symbols {
				row += codes[s]
				if n, e := c.Put(one, s); n != l[s] || e != api.OK {
					t.Errorf("%s: Put(%d): %d %v", name, s, n, e)
				}
			}
			if n, e := c.Put(w, symbols...); n != len(row)-from || e != api.OK {
				t.Errorf("%s: Put: %d %v, not %d", name, n, e, len(row)-from)
			}
			if b := packed(row, "0"); w.Len() != len(row) || !bytes.Equal(w.Bytes(), b) || !bytes.Equal(one.Bytes(), b) {
				t.Errorf("%s: put %x, %x, not %x", name, w.Bytes(), one.Bytes(), b)
			}
			back := bits.NewReader(w.Bytes())
			back.Skip(from)
			for i, s := range symbols {
				if got, e := c.Take(back); got != s || e != api.OK {
					t.Fatalf("%s: symbol %d is %d %v, not %d", name, i, got, e, s)
				}
			}
			if back.At() != len(row) {
				t.Errorf("%s: at %d, not %d", name, back.At(), len(row))
			}
		}
	}
}

// P3.4: of counts, over their lengths: what is put and taken costs what Cost says.
func TestPutCosts(t *testing.T) {
	for _, most := range []int{4, 7, 15} {
		counts := []uint32{40, 0, 3, 1, 1, 17, 90, 2, 0, 1, 6, 5, 0}
		l, e := Lengths(most, counts...)
		if e != api.OK {
			t.Fatal(e)
		}
		var symbols []int
		for s, n := range counts {
			symbols = append(symbols, same(int(n), s)...)
		}
		w := bits.NewWriter()
		n, e := made(t, l).Put(w, symbols...)
		cost, f := Cost(l, counts...)
		if uint64(n) != cost || w.Len() != n || e != api.OK || f != api.OK {
			t.Errorf("%d bits: put %d %v, the cost is %d %v", most, n, e, cost, f)
		}
	}
}

// P3.3: with a symbol that has no code nothing is put, wherever it stands.
func TestPutRefuses(t *testing.T) {
	c := made(t, []int{2, 0, 1, 3, 3, 0})
	for _, wrong := range []int{-1, 1, 5, 6, 7, 319, 320, math.MinInt, math.MaxInt, 1 << 32} {
		for _, symbols := range [][]int{{wrong}, {0, wrong}, {wrong, 0}, {0, 2, wrong, 3}, append(same(5000, 2), wrong)} {
			w := bits.NewWriter()
			w.Put(5, 3)
			if n, e := c.Put(w, symbols...); n != 0 || e != api.ErrArg || w.Len() != 3 || !bytes.Equal(w.Bytes(), []byte{5}) {
				t.Errorf("%d: %d %v, %d bits %x", wrong, n, e, w.Len(), w.Bytes())
			}
			if n, e := c.Put(w, 2, 4); n != 4 || e != api.OK || w.Len() != 7 || w.Bytes()[0] != 5|0b1110<<3 {
				t.Errorf("behind %d: %d %v %b", wrong, n, e, w.Bytes())
			}
		}
	}
	w := bits.NewWriter()
	if n, e := c.Put(w); n != 0 || e != api.OK || w.Len() != 0 {
		t.Errorf("nothing: %d %v %d", n, e, w.Len())
	}
	room := []int{0, 2, 77}
	c.Put(w, room[:2]...)
	if !slices.Equal(room, []int{0, 2, 77}) {
		t.Error("what was handed in has changed:", room)
	}
}

// P3.3: nil codes, writers and readers are ErrNil, ahead of whatever else is wrong; nil ones tell nothing else.
func TestNil(t *testing.T) {
	c := made(t, []int{2, 1, 3, 3})
	var none *Code
	w, r := bits.NewWriter(), bits.NewReader([]byte{0x39})
	for i, put := range []func() (int, api.Errno){
		func() (int, api.Errno) { return none.Put(w, 0) },
		func() (int, api.Errno) { return none.Put(w) },
		func() (int, api.Errno) { return none.Put(nil, 9) },
		func() (int, api.Errno) { return none.Put(nil) },
		func() (int, api.Errno) { return c.Put(nil, 0) },
		func() (int, api.Errno) { return c.Put(nil) },
		func() (int, api.Errno) { return c.Put(nil, -1) },
		func() (int, api.Errno) { return new(Code).Put(nil, 0) },
		func() (int, api.Errno) { return none.Take(r) },
		func() (int, api.Errno) { return none.Take(nil) },
		func() (int, api.Errno) { return c.Take(nil) },
		func() (int, api.Errno) { return new(Code).Take(nil) },
	} {
		if n, e := put(); n != 0 || e != api.ErrNil {
			t.Errorf("call %d: %d %v", i, n, e)
		}
	}
	if w.Len() != 0 || r.At() != 0 {
		t.Error(w.Len(), r.At())
	}
	if l := none.Lengths(); len(l) != 0 {
		t.Error(l)
	}
	if none.All() == nil {
		t.Fatal("there is no iterator")
	}
	for s, x := range none.All() {
		t.Error(s, x)
	}
}

// P3.3: a zero code is as one of no symbols: it puts nothing but nothing, and no bits are its code or the beginning of one.
func TestOfNoSymbols(t *testing.T) {
	for name, c := range map[string]*Code{"zero": new(Code), "of no symbols": made(t, nil), "without codes": made(t, same(320, 0))} {
		w := bits.NewWriter()
		if n, e := c.Put(w); n != 0 || e != api.OK {
			t.Error(name, n, e)
		}
		if n, e := c.Put(w, 0); n != 0 || e != api.ErrArg || w.Len() != 0 {
			t.Error(name, n, e)
		}
		for _, b := range [][]byte{nil, {0}, {1}, {255, 255, 255}} {
			r := bits.NewReader(b)
			if s, e := c.Take(r); s != 0 || e != api.ErrCode || r.At() != 0 {
				t.Error(name, b, s, e)
			}
		}
		for s, x := range c.All() {
			t.Error(name, s, x)
		}
		if l := c.Lengths(); slices.Max(append(l, 0)) != 0 || name != "without codes" && len(l) != 0 || name == "without codes" && len(l) != 320 {
			t.Error(name, l)
		}
	}
}

// P3.3: zero writers and readers are as new ones (layer 2).
func TestZeroWriterAndReader(t *testing.T) {
	c := made(t, []int{2, 1, 3, 3})
	var w bits.Writer
	if n, e := c.Put(&w, 0, 1, 3); n != 6 || e != api.OK || !bytes.Equal(w.Bytes(), []byte{0x39}) {
		t.Error(n, e, w.Bytes())
	}
	var r bits.Reader
	if s, e := c.Take(&r); s != 0 || e != api.ErrBits {
		t.Error(s, e)
	}
}

// P3.3: All tells the symbols that have a code, rising, with it; again and again, left early or one within the other.
func TestAll(t *testing.T) {
	type pair struct {
		symbol int
		code   uint64
	}
	for name, l := range samples() {
		c := made(t, l)
		var want []pair
		for s, row := range rows(l) {
			if row != "" {
				want = append(want, pair{s, value(row)})
			}
		}
		all := c.All()
		for stop := range len(want) + 2 {
			var got []pair
			for s, x := range all {
				if got = append(got, pair{s, x}); len(got) == stop {
					break
				}
			}
			part := want
			if stop > 0 && stop < len(want) {
				part = want[:stop]
			}
			if !slices.Equal(got, part) {
				t.Errorf("%s, left behind %d: %v, not %v", name, stop, got, part)
			}
		}
		if len(want) > 20 {
			continue
		}
		i := 0
		for s, x := range all {
			k := 0
			for u, y := range all {
				if want[i] != (pair{s, x}) || want[k] != (pair{u, y}) {
					t.Errorf("%s: %d %d, %d %d", name, s, x, u, y)
				}
				k++
			}
			i++
		}
		if i != len(want) {
			t.Error(name, i)
		}
	}
}

// P3.3: Lengths tells the lengths as they were handed in, in new memory each time.
func TestCodeLengths(t *testing.T) {
	for name, l := range samples() {
		c := made(t, l)
		one, two := c.Lengths(), c.Lengths()
		if !slices.Equal(one, l) || !slices.Equal(two, l) {
			t.Errorf("%s: %v %v, not %v", name, one, two, l)
		}
		clear(one[:cap(one)])
		if !slices.Equal(two, l) || !slices.Equal(c.Lengths(), l) {
			t.Errorf("%s: what was handed out is shared", name)
		}
	}
}

// P3.3: a code stays as it was made: of the list that it was made of, and of the bytes of readers, it keeps nothing.
func TestCodeIsKeptApart(t *testing.T) {
	list := []int{2, 1, 3, 3}
	c := made(t, list)
	copy(list, []int{1, 2, 0, 2})
	w := bits.NewWriter()
	if n, e := c.Put(w, 0, 1, 3); n != 6 || e != api.OK || !bytes.Equal(w.Bytes(), []byte{0x39}) {
		t.Error(n, e, w.Bytes())
	}
	b := []byte{0x39, 0}
	if s, e := c.Take(bits.NewReader(b)); s != 0 || e != api.OK || !bytes.Equal(b, []byte{0x39, 0}) {
		t.Error(s, e, b)
	}
	got := map[int]uint64{}
	for s, x := range c.All() {
		got[s] = x
	}
	if len(got) != 4 || got[0] != 2 || got[1] != 0 || got[2] != 6 || got[3] != 7 {
		t.Error(got)
	}
}
