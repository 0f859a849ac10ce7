package granules

import (
	"bytes"
	"math"
	"slices"
	"testing"

	"palimpsest/api"
)

// grans are Grans about their bounds, and far from them.
func grans() []int {
	return []int{math.MinInt, -1, 0, 1, 7, 8, 9, 10, 16, 25, 26, 27, 28, 32, 64, 73, 265, math.MaxInt}
}

// allowed tells whether a size and a Gran may be, as the chapter's section 'Words' has them.
func allowed(size int64, gran int) bool { return size >= 0 && size <= most && gran > 8 && gran < 27 }

// P19.1: New and Open of all sizes and Grans at which something may go wrong.
func TestNewOfOddNumbers(t *testing.T) {
	for _, size := range odd() {
		for _, gran := range grans() {
			m, no := New(size, gran)
			o, openNo := Open(size, gran, nil)
			if !allowed(size, gran) {
				if m != nil || no != api.ErrArg || o != nil || openNo != api.ErrArg {
					t.Errorf("%d %d: New %v %v, Open %v %v", size, gran, m, no, o, openNo)
				}
				continue
			}
			if no != api.OK {
				t.Fatalf("New(%d, %d): %v", size, gran, no)
			}
			newPlain(size, gran).is(t, m)
			if want := size > 0; want != (o == nil) || want != (openNo == api.ErrBroken) {
				t.Errorf("Open(%d, %d) of no bytes: %v %v", size, gran, o, openNo)
			}
		}
	}
}

// P19.1: New at both ends of sizes and Grans, by the numbers of granules.
func TestNewRows(t *testing.T) {
	for _, x := range []struct {
		size  int64
		gran  int
		many  int
		bytes int
	}{
		{0, 9, 0, 0}, {0, 26, 0, 0}, {1, 9, 1, 1}, {1, 26, 1, 1}, {511, 9, 1, 1}, {512, 9, 1, 1}, {513, 9, 2, 1}, {4096, 9, 8, 1}, {4097, 9, 9, 2}, {5000, 10, 5, 1},
		{most, 9, 131072, 16384}, {most - 1, 9, 131072, 16384}, {most - 512, 9, 131071, 16384}, {most, 26, 1, 1}, {most, 25, 2, 1}, {most/2 + 1, 25, 2, 1}, {most / 2, 25, 1, 1},
	} {
		m := made(t, x.size, x.gran)
		if many, dirty := m.Count(); many != x.many || dirty != 0 {
			t.Errorf("%d %d: Count %d %d", x.size, x.gran, many, dirty)
		}
		if b := m.Bytes(); !bytes.Equal(b, make([]byte, x.bytes)) {
			t.Errorf("%d %d: %d bytes, or one is not 0", x.size, x.gran, len(b))
		}
		if size, gran := m.Size(); size != x.size || gran != x.gran {
			t.Errorf("%d %d: Size %d %d", x.size, x.gran, size, gran)
		}
	}
}

// numbers are how many granules maps have that are tried with many bytes: all from 0 to 17, and those about whole words.
func numbers() []int {
	var l []int
	for n := range 18 {
		l = append(l, n)
	}
	for _, n := range []int{64, 128, 192} {
		for by := -9; by < 10; by++ {
			l = append(l, n+by)
		}
	}
	return l
}

// sizes are sizes that ask for so many granules.
func sizes(many, gran int) []int64 {
	whole := int64(many) << gran
	if many == 0 {
		return []int64{0}
	}
	return []int64{whole, whole - 1, whole - 1<<gran + 1}
}

// opened holds Open against what it should answer, and the map against the bytes.
func opened(t *testing.T, size int64, gran int, b []byte, want api.Errno) {
	t.Helper()
	given := slices.Clone(b)
	m, no := Open(size, gran, b)
	if no != want || (m != nil) != (want == api.OK) || !bytes.Equal(b, given) {
		t.Fatalf("Open(%d, %d, %v): %v %v, want %v", size, gran, given, m, no, want)
	}
	if m == nil {
		return
	}
	if !bytes.Equal(m.Bytes(), given) {
		t.Fatalf("Open(%d, %d, %v) has the bytes %v", size, gran, given, m.Bytes())
	}
	p := newPlain(size, gran)
	for g := range p.dirty {
		p.dirty[g] = given[g/8]>>(g%8)&1 == 1
	}
	p.is(t, m)
	if l := listed(m.All()); !slices.Equal(l, p.all()) {
		t.Fatalf("Open(%d, %d, %v): All %v, want %v", size, gran, given, l, p.all())
	}
}

// P19.1, P19.6: Open of as many bytes as a map has, of fewer and of more, at all numbers of granules about those of whole bytes and words.
func TestOpenOfManyLengths(t *testing.T) {
	for _, many := range numbers() {
		for _, gran := range []int{9, 12} {
			for _, size := range sizes(many, gran) {
				need := (many + 7) / 8
				for n := range need + 3 {
					want := api.ErrBroken
					if n == need {
						want = api.OK
					}
					opened(t, size, gran, make([]byte, n), want)
				}
				for _, n := range []int{2 * need, need + 8, need + 64, 8 * need, 64*need + 64, many, 1 << 16} {
					if n != need {
						opened(t, size, gran, make([]byte, n), api.ErrBroken)
					}
				}
				if need == 0 {
					opened(t, size, gran, nil, api.OK)
				} else {
					opened(t, size, gran, nil, api.ErrBroken)
				}
			}
		}
	}
}

// P19.1, P19.6: Open with each bit set alone, and all of them but one: behind the last granule none may be.
func TestOpenOfEachBit(t *testing.T) {
	for _, many := range numbers() {
		size := sizes(many, 9)[many%2]
		need := (many + 7) / 8
		full := make([]byte, need)
		for g := range many {
			full[g/8] |= 1 << (g % 8)
		}
		opened(t, size, 9, full, api.OK)
		for bit := range 8 * need {
			want := api.OK
			if bit >= many {
				want = api.ErrBroken
			}
			one := make([]byte, need)
			one[bit/8] = 1 << (bit % 8)
			opened(t, size, 9, one, want)
			other := slices.Clone(full)
			other[bit/8] ^= 1 << (bit % 8)
			opened(t, size, 9, other, want)
		}
	}
}

// P19.1, P19.6: Open of all bytes of maps with up to eleven granules.
func TestOpenOfAllBytes(t *testing.T) {
	for many := range 9 {
		for x := range 256 {
			want := api.OK
			if many == 0 || x>>many != 0 {
				want = api.ErrBroken
			}
			opened(t, sizes(many, 9)[0], 9, []byte{byte(x)}, want)
		}
	}
	for many := 9; many < 12; many++ {
		for x := range 1 << 12 {
			want := api.OK
			if x>>many != 0 {
				want = api.ErrBroken
			}
			opened(t, sizes(many, 9)[1], 9, []byte{byte(x), byte(x >> 8)}, want)
		}
	}
}

// P19.1: a size or a Gran that may not be is told ahead of bytes that are no map's.
func TestOpenRefusesInOrder(t *testing.T) {
	for _, b := range [][]byte{nil, {}, {0}, {255}, make([]byte, 16384), make([]byte, 1<<20)} {
		for _, x := range []struct {
			size int64
			gran int
		}{{-1, 9}, {most + 1, 9}, {most + 1, 26}, {0, 8}, {0, 27}, {5000, 8}, {5000, 27}, {math.MinInt64, 9}, {math.MaxInt64, 26}, {-1, 27}} {
			opened(t, x.size, x.gran, b, api.ErrArg)
		}
	}
}

// P19.1, P19.6: a map of the greatest size and the least Gran, dirty at both ends and at some granules between.
func TestOpenOfTheGreatest(t *testing.T) {
	b := make([]byte, 16384)
	b[0], b[8], b[9000], b[16383] = 1, 128, 24, 128
	m, no := Open(most, 9, b)
	if no != api.OK || !bytes.Equal(m.Bytes(), b) {
		t.Fatal(no)
	}
	if l := listed(m.All()); !slices.Equal(l, []int64{0, 71, 72003, 72004, 131071}) {
		t.Error(l)
	}
	if l := stretched(m.Runs()); !slices.Equal(l, []stretch{{0, 512}, {36352, 512}, {36865536, 1024}, {most - 512, 512}}) {
		t.Error(l)
	}
	if m, no := Open(most-512, 9, b); m != nil || no != api.ErrBroken {
		t.Error(m, no)
	}
	b[16383] = 64
	if m, no := Open(most-512, 9, b); m == nil || no != api.OK {
		t.Error(m, no)
	}
}

// P19.1: what Open was given may be changed behind it, and what Bytes tells too: the map stays, and so does what was handed in, and what was told.
func TestBytesAreApart(t *testing.T) {
	for _, many := range []int{1, 5, 8, 9, 64, 65, 129} {
		p := newPlain(int64(many)<<9, 9)
		for g := 0; g < many; g += 3 {
			p.dirty[g] = true
		}
		spare := bytes.Repeat([]byte{255}, 9)
		given := append(p.bytes(), spare...)
		b := given[:len(given)-len(spare)]
		m, no := Open(p.size, 9, b)
		if no != api.OK {
			t.Fatal(no)
		}
		told := m.Bytes()
		for _, change := range []func(){func() { m.Clear() }, func() { m.Set(0, p.size) }, func() { m.Resize(0) }} {
			change()
			if !bytes.Equal(b, p.bytes()) || !bytes.Equal(given[len(b):], spare) {
				t.Error(many, "what was handed in is changed")
			}
			if !bytes.Equal(told, p.bytes()) {
				t.Error(many, "what was told is changed")
			}
		}
		m, _ = Open(p.size, 9, b)
		for i := range given {
			given[i] = ^given[i]
		}
		p.tells(t, m)
		told = m.Bytes()
		for i := range told {
			told[i] = ^told[i]
		}
		p.tells(t, m)
	}
}
