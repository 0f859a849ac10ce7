package deflate

import (
	"bytes"
	"compress/flate"
	"fmt"
	"io"
	"math"
	"math/rand"
	"slices"
	"strings"
	"testing"

	"palimpsest/api"
	"palimpsest/lz"
)

// listed are the blocks that Blocks tells, which must be numbered from 0 on.
func listed(t *testing.T, b []byte, most int) []api.Block {
	t.Helper()
	all, e := Blocks(b, most)
	if all == nil || e != api.OK {
		t.Fatalf("Blocks of %x: %v", cropTo(b), e)
	}
	var l []api.Block
	for i, x := range all {
		if i != len(l) {
			t.Errorf("Blocks of %x: number %d at %d", cropTo(b), i, len(l))
		}
		l = append(l, x)
	}
	return l
}

// cropTo is as many bytes as are told of a fault.
func cropTo(b []byte) []byte { return b[:min(len(b), 200)] }

// holds holds Unpack and Blocks of bytes against the words of the chapter, and tells what these say.
func holds(t *testing.T, b []byte, most int) told {
	t.Helper()
	want := byWords(b, most)
	plain, n, e := Unpack(b, most)
	if !bytes.Equal(plain, want.plain) || n != want.n || e != want.e {
		t.Errorf("Unpack(%x, %d): %d bytes %x, %d %v, not %d bytes %x, %d %v", cropTo(b), most, len(plain), cropTo(plain), n, e, len(want.plain), cropTo(want.plain), want.n, want.e)
	}
	if l := listed(t, b, most); !slices.Equal(l, want.blocks) {
		t.Errorf("Blocks(%x, %d): %v, not %v", cropTo(b), most, l, want.blocks)
	}
	return want
}

// tellsAs wants a stream to tell these bytes, to be just so long, whatever stands behind it, and the library to agree.
func tellsAs(t *testing.T, name, row string, plain []byte) {
	t.Helper()
	b := packed(row)
	if got, err := io.ReadAll(flate.NewReader(bytes.NewReader(b))); err != nil || !bytes.Equal(got, plain) {
		t.Fatalf("%s: the library says %v of %d bytes, which are not the %d asked for", name, err, len(got), len(plain))
	}
	for _, behind := range [][]byte{nil, {0}, {255}, []byte("anything at all")} {
		all := append(slices.Clone(b), behind...)
		for _, most := range []int{len(plain), len(plain) + 1, api.MaxPlain} {
			got, n, e := Unpack(all, most)
			if !bytes.Equal(got, plain) || n != len(b) || e != api.OK {
				t.Errorf("%s: %d bytes %x of %d, %v, not %x of %d", name, len(got), cropTo(got), n, e, cropTo(plain), len(b))
			}
		}
	}
	if len(plain) > 0 {
		if got, n, e := Unpack(b, len(plain)-1); got != nil || n != 0 || e != api.ErrLarge {
			t.Errorf("%s: with one less: %d bytes, %d, %v", name, len(got), n, e)
		}
	}
	if want := holds(t, b, len(plain)); want.e != api.OK || want.blocks[len(want.blocks)-1].To != len(row) {
		t.Errorf("%s: the words say %v, %v", name, want.e, want.blocks)
	}
}

// sampleStreams are streams of each kind, and what they tell.
func sampleStreams() map[string]struct {
	row   string
	plain string
} {
	type sample = struct{ row, plain string }
	out := map[string]sample{}
	out["fixed of nothing"] = sample{fixedBlock(true), ""}
	out["stored of nothing"] = sample{storedAt(0, true, nil), ""}
	two := fixedBlock(false) + fixedBlock(false)
	out["stored of nothing, twice, between fixed ones"] = sample{two + storedAt(len(two), false, nil) + storedAt(0, false, nil) + fixedBlock(true, byteOf('z')), "z"}
	a := storedAt(0, false, []byte("stored, "))
	out["a match into a stored block"] = sample{a + fixedBlock(true, matchOf(8, 8), byteOf('x'), matchOf(3, 17)), "stored, stored, xsto"}
	out["matches that reach into themselves"] = sample{fixedBlock(true, append(bytesOf("ab"), matchOf(5, 2), matchOf(4, 1), matchOf(6, 3))...), "abababa" + "aaaa" + "aaaaaa"}
	b := fixedBlock(false, bytesOf("\x00\x8f\x90\xff")...)
	out["all widths of bytes"] = sample{b + fixedBlock(true, matchOf(10, 4)), "\x00\x8f\x90\xff\x00\x8f\x90\xff\x00\x8f\x90\xff\x00\x8f"}
	c := one(258, 2, 256, 257)
	c['a'] = 1
	out["dynamic, one distance of 1 bit"] = sample{dyn{last: true, symbols: c, distances: []int{1}}.block(byteOf('a'), matchOf(3, 1), byteOf('a')), "aaaaa"}
	out["dynamic, no distances"] = sample{dyn{last: true, symbols: one(257, 1, 'q', 256), distances: []int{0}}.block(bytesOf("qqqq")...), "qqqq"}
	out["dynamic, no distances of 30"] = sample{dyn{last: true, symbols: one(286, 1, 'q', 256), distances: make([]int, 30)}.block(bytesOf("q")...), "q"}
	out["dynamic, the end alone"] = sample{dyn{last: true, symbols: one(257, 1, 256), distances: []int{0}}.block(), ""}
	d := fixedBlock(false, bytesOf("what stood before")...) + dyn{symbols: one(257, 1, 256), distances: []int{1}}.block() + dyn{last: true, symbols: one(286, 1, 256, 285), distances: one(30, 1, 3)}.block(matchOf(258, 4))
	out["several kinds"] = sample{d, "what stood before" + strings.Repeat("fore", 65)[:258]}
	deep := make([]int, 286)
	for i := range 15 {
		deep[i+'a'] = i + 1
	}
	deep[256] = 15
	out["dynamic, codes of 15 bits"] = sample{dyn{last: true, symbols: deep, distances: make([]int, 1)}.block(bytesOf("abcdefghijklmnoonm")...), "abcdefghijklmnoonm"}
	return out
}

// P5.2: streams of each kind that the package itself does not make.
func TestSampleStreams(t *testing.T) {
	for name, x := range sampleStreams() {
		tellsAs(t, name, x.row, []byte(x.plain))
	}
}

// P5.2: each block begins at each place in a byte.
func TestStreamsAtEachPlaceInAByte(t *testing.T) {
	for k := range 8 {
		front := ahead(k)
		for name, x := range sampleStreams() {
			if strings.Contains(name, "stored") {
				continue
			}
			tellsAs(t, fmt.Sprint(name, " behind ", k), front+x.row, []byte(x.plain))
		}
		for _, b := range []string{"", "s", "stored"} {
			tellsAs(t, fmt.Sprint("stored behind ", k), front+storedAt(k, true, []byte(b)), []byte(b))
		}
	}
}

// P5.2: the bits that are passed over ahead of a stored block's numbers are not looked at.
func TestStoredPassesOverAnyBits(t *testing.T) {
	for fill := range 32 {
		row := "100" + low(fill, 5) + storedAt(0, true, []byte("ab"))[8:]
		if b, n, e := Unpack(packed(row), 2); string(b) != "ab" || n != 7 || e != api.OK {
			t.Errorf("%05b: %q %d %v", fill, b, n, e)
		}
	}
}

// allMatches are all lengths, and the first, the last and a middle one of each distance's symbol, behind so many bytes.
func allMatches(r *rand.Rand) []api.Token {
	var l []api.Token
	for n := 3; n <= 258; n++ {
		l = append(l, matchOf(n, 1+r.Intn(32768)))
	}
	for i, first := range firstDistances {
		for _, far := range []int{first, first + 1<<moreDistances[i]/2, first + 1<<moreDistances[i] - 1} {
			l = append(l, matchOf(3+r.Intn(256), far))
		}
	}
	return l
}

// P5.2: fixed and dynamic blocks with all lengths and distances.
func TestAllLengthsAndDistances(t *testing.T) {
	r := rand.New(rand.NewSource(51))
	plain := make([]byte, 32768)
	r.Read(plain)
	l := allMatches(r)
	var tokens []api.Token
	for _, c := range plain {
		tokens = append(tokens, byteOf(c))
	}
	all, _, e := lz.Expand(api.MaxPlain, append(tokens, l...)...)
	if e != api.OK {
		t.Fatal(e)
	}
	stored := storedAt(0, false, plain)
	tellsAs(t, "fixed", stored+fixedBlock(true, l...), all)
	// 286 symbols: 226 of 8 bits and 60 of 9; 30 distances: 2 of 4 bits and 28 of 5.
	symbols, distances := append(full(226, 8), full(60, 9)...), append(full(28, 5), 4, 4)
	tellsAs(t, "dynamic", stored+dyn{last: true, symbols: symbols, distances: distances}.block(l...), all)
}

// P5.2: repeats by 16, 17 and 18, at their bounds, and such that go over from symbols to distances.
func TestRepeats(t *testing.T) {
	ends := one(257, 1, 'a', 256)
	// Up to 255: 97 noughts, a, 138 noughts, 20 noughts; then 256.
	front := []rep{{18, 86}, {1, 0}, {18, 127}, {18, 9}, {1, 0}}
	for _, x := range []struct {
		name               string
		symbols, distances int
		row                []rep
	}{
		{"17 at its least", 257, 3, []rep{{17, 0}}},
		{"17 at its most and its least", 257, 13, []rep{{17, 7}, {17, 0}}},
		{"18 at its least", 257, 11, []rep{{18, 0}}},
		{"16 of noughts, behind 17", 257, 9, []rep{{17, 0}, {16, 3}}},
		{"16 of noughts, behind one", 257, 4, []rep{{0, 0}, {16, 0}}},
		{"17 that goes over", 260, 6, []rep{{17, 6}}},
		{"18 that goes over", 260, 10, []rep{{18, 2}}},
		{"16 of noughts that goes over", 260, 4, []rep{{0, 0}, {16, 3}}},
		{"17 that ends with the symbols", 260, 1, []rep{{17, 0}, {0, 0}}},
	} {
		symbols := append(slices.Clone(ends), make([]int, x.symbols-257)...)
		d := dyn{last: true, symbols: symbols, distances: make([]int, x.distances), row: append(slices.Clone(front), x.row...)}
		tellsAs(t, x.name, d.block(bytesOf("aaa")...), []byte("aaa"))
	}
	// The symbols a, 256, 257 and 258, and the distances 0 to 3, have 2 bits each: 2, and 16 six times.
	twos := append(one(257, 2, 'a', 256), 2, 2)
	row := append(slices.Clone(front), rep{16, 3})
	row[1], row[4] = rep{2, 0}, rep{2, 0}
	tellsAs(t, "16 that goes over", dyn{last: true, symbols: twos, distances: full(4, 2), row: row}.block(byteOf('a'), matchOf(4, 1), matchOf(3, 4)), []byte("aaaaaaaa"))
	// 226 symbols of 8 bits, 60 of 9.
	row = append(each(8), slices.Repeat([]rep{{16, 3}}, 37)...)
	row = append(row, rep{16, 0}, rep{9, 0})
	row = append(row, slices.Repeat([]rep{{16, 3}}, 9)...)
	row = append(row, rep{16, 2}, rep{0, 0})
	tellsAs(t, "16 at its bounds", dyn{last: true, symbols: append(full(226, 8), full(60, 9)...), distances: []int{0}, row: row}.block(bytesOf("hello")...), []byte("hello"))
	// Noughts and lengths of 8 bits need five lengths of the code of lengths, no more.
	eights := append([]int{0}, full(256, 8)...)
	tellsAs(t, "five lengths told", dyn{last: true, symbols: eights, distances: []int{0}, ordered: one(19, 1, 0, 8), told: 5}.block(bytesOf("xyz")...), []byte("xyz"))
}

// P5.2: a code of lengths of one symbol, of 1 bit, may be; what it can tell has no code for 256, or is over.
func TestCodeOfLengthsOfOneSymbol(t *testing.T) {
	for symbol := range 16 {
		d := dyn{last: true, symbols: full(257, symbol), distances: full(1, symbol), ordered: one(19, 1, symbol)}
		refuses(t, fmt.Sprint("all lengths ", symbol), d.begun(), 99, api.ErrCodes)
		refuses(t, fmt.Sprint("bit 1 of one code, of ", symbol), d.head()+"1", 99, api.ErrCode)
		refuses(t, fmt.Sprint("bit 1 behind lengths ", symbol), d.head()+"0001", 99, api.ErrCode)
	}
}

// P5.2: the library's streams, of several blocks.
func TestLibraryStreams(t *testing.T) {
	r := rand.New(rand.NewSource(52))
	for name, plain := range plains() {
		for _, level := range []int{flate.HuffmanOnly, 0, 1, 6, 9} {
			var z bytes.Buffer
			w, _ := flate.NewWriter(&z, level)
			cut := r.Intn(len(plain) + 1)
			w.Write(plain[:cut])
			w.Flush()
			w.Write(plain[cut:])
			w.Close()
			if got, n, e := Unpack(append(z.Bytes(), 1, 2), len(plain)); !bytes.Equal(got, plain) || n != z.Len() || e != api.OK {
				t.Errorf("%s, level %d: %d bytes of %d, %v", name, level, len(got), n, e)
			}
			sum := 0
			for _, x := range listed(t, z.Bytes(), len(plain)) {
				sum += x.Bytes
			}
			if sum != len(plain) {
				t.Errorf("%s, level %d: blocks tell %d, not %d", name, level, sum, len(plain))
			}
		}
	}
}

// P5.2: at the greatest bound, just as many bytes and one more.
func TestMaxPlainUnpacked(t *testing.T) {
	for _, n := range []int{api.MaxPlain, api.MaxPlain + 1} {
		var z bytes.Buffer
		w, _ := flate.NewWriter(&z, 6)
		w.Write(bytes.Repeat([]byte{9}, n))
		w.Close()
		b, m, e := Unpack(z.Bytes(), api.MaxPlain)
		if n == api.MaxPlain && (len(b) != n || m != z.Len() || e != api.OK) {
			t.Error(n, len(b), m, e)
		}
		if n > api.MaxPlain && (b != nil || m != 0 || e != api.ErrLarge) {
			t.Error(n, len(b), m, e)
		}
	}
}

// P5.2, P5.3: bounds that may not be are told ahead of all that is wrong with a stream.
func TestBounds(t *testing.T) {
	for _, b := range [][]byte{nil, {}, {3, 0}, {7}, {3}, make([]byte, api.MaxPlain+1)} {
		for _, most := range []int{-1, -2, math.MinInt, math.MinInt32, api.MaxPlain + 1, math.MaxInt, 1 << 32} {
			if got, n, e := Unpack(b, most); got != nil || n != 0 || e != api.ErrArg {
				t.Errorf("Unpack(%x, %d): %x %d %v", cropTo(b), most, got, n, e)
			}
			if all, e := Blocks(b, most); all != nil || e != api.ErrArg {
				t.Errorf("Blocks(%x, %d): %v", cropTo(b), most, e)
			}
		}
		for _, most := range []int{0, 1, api.MaxPlain} {
			holds(t, b[:min(len(b), 9)], most)
		}
	}
}

// P5.2, P5.3: the rows of the chapter.
func TestUnpackExamples(t *testing.T) {
	for _, x := range []struct {
		b     []byte
		most  int
		plain string
		n     int
		e     api.Errno
	}{
		{[]byte{3, 0}, 0, "", 2, api.OK},
		{[]byte{3}, 9, "", 0, api.ErrBits},
		{[]byte{7}, 9, "", 0, api.ErrBlock},
		{[]byte{0x4b, 4, 0, 0x99}, 9, "a", 3, api.OK},
		{[]byte{0x4b, 4, 0}, 0, "", 0, api.ErrLarge},
		{[]byte{1, 1, 0, 255, 255, 0x61}, 9, "", 0, api.ErrBlock},
		{[]byte{0x4b, 4, 0x41, 0}, 9, "", 0, api.ErrFar},
	} {
		if b, n, e := Unpack(x.b, x.most); string(b) != x.plain || n != x.n || e != x.e {
			t.Errorf("%x: %q %d %v", x.b, b, n, e)
		}
		holds(t, x.b, x.most)
	}
	want := []api.Block{{Kind: api.BlockFixed, Last: true, From: 0, To: 18, Bytes: 1}}
	if l := listed(t, []byte{0x4b, 4, 0}, 9); !slices.Equal(l, want) {
		t.Error(l)
	}
}

// P5.2, P5.3: all streams of at most two bytes, and many of three and more, against the words of the chapter.
func TestShortStreams(t *testing.T) {
	holds(t, nil, 3)
	for x := range 1 << 16 {
		if x < 256 {
			holds(t, []byte{byte(x)}, x%3)
		}
		holds(t, []byte{byte(x), byte(x >> 8)}, x%5)
	}
	r := rand.New(rand.NewSource(53))
	for range 20000 {
		b := make([]byte, 3+r.Intn(40))
		r.Read(b)
		b[0] = b[0]&^7 | []byte{0, 1, 2, 3, 2, 3, 4, 5, 4, 5, 4, 5, 6}[r.Intn(13)]
		holds(t, b, r.Intn(40))
	}
}

// P5.2, P5.3: sample streams cut, bent and bounded anyhow, against the words of the chapter.
func TestBentStreams(t *testing.T) {
	r := rand.New(rand.NewSource(54))
	seen := map[api.Errno]int{}
	for _, x := range sampleStreams() {
		b := packed(x.row)
		for i := range 8 * len(b) {
			bent := slices.Clone(b)
			bent[i/8] ^= 1 << (i % 8)
			seen[holds(t, bent, len(x.plain)+r.Intn(300)).e]++
			if i%4 == 0 {
				seen[holds(t, bent, r.Intn(len(x.plain)+1)).e]++
			}
			if i%8 == 0 {
				holds(t, b[:i/8], len(x.plain))
				holds(t, b[:i/8], r.Intn(len(x.plain)+1))
			}
		}
	}
	for _, e := range []api.Errno{api.OK, api.ErrBits, api.ErrBlock, api.ErrCodes, api.ErrCode, api.ErrFar, api.ErrLarge} {
		if seen[e] == 0 {
			t.Errorf("no bent stream says %v", e)
		}
	}
}

// wild is a dynamic block of lengths and rows that are mostly right, and then not quite.
func wild(r *rand.Rand) string {
	symbols, distances := 257+r.Intn(30), 1+r.Intn(30)
	all := make([]int, symbols+distances)
	spread(r, all[:symbols], 256)
	if r.Intn(3) > 0 {
		spread(r, all[symbols:], r.Intn(distances))
	}
	for range r.Intn(8) / 6 {
		all[r.Intn(len(all))] = r.Intn(16)
	}
	d := dyn{last: r.Intn(2) == 0, symbols: all[:symbols], distances: all[symbols:]}
	for i := 0; i < len(all); {
		n := 1
		for i+n < len(all) && all[i+n] == all[i] {
			n++
		}
		switch {
		case i > 0 && all[i-1] == all[i] && n >= 3 && r.Intn(3) > 0:
			n = 3 + r.Intn(min(n, 6)-2)
			d.row = append(d.row, rep{16, n - 3})
		case all[i] == 0 && n >= 11 && r.Intn(4) > 0:
			n = 11 + r.Intn(min(n, 138)-10)
			d.row = append(d.row, rep{18, n - 11})
		case all[i] == 0 && n >= 3 && r.Intn(4) > 0:
			n = 3 + r.Intn(min(n, 10)-2)
			d.row = append(d.row, rep{17, n - 3})
		default:
			n = 1
			d.row = append(d.row, rep{all[i], 0})
		}
		i += n
	}
	if r.Intn(12) == 0 {
		d.row[len(d.row)-1] = rep{16 + r.Intn(3), r.Intn(4)}
	}
	s := d.begun()
	for range r.Intn(60) {
		s += low(r.Intn(256), 8)
	}
	return s
}

// spread gives lengths that are whole to some symbols, this one among them.
func spread(r *rand.Rand, lengths []int, with int) {
	l := []int{0}
	for range r.Intn(40) {
		i := r.Intn(len(l))
		if l[i] < 15 && len(l) < len(lengths) {
			l[i]++
			l = append(l, l[i])
		}
	}
	if len(l) == 1 {
		l[0] = 1
	}
	at := r.Perm(len(lengths))
	i := slices.Index(at, with)
	at[0], at[i] = at[i], at[0]
	for i, n := range l {
		lengths[at[i]] = n
	}
}

// P5.2, P5.3: dynamic blocks of any codes, with any bits behind, against the words of the chapter.
func TestWildStreams(t *testing.T) {
	r := rand.New(rand.NewSource(55))
	seen := map[api.Errno]int{}
	for range 3000 {
		front := fixedBlock(false, bytesOf(strings.Repeat("abc", r.Intn(9)))...)
		row := front + wild(r)
		if r.Intn(3) == 0 {
			row += wild(r)
		}
		seen[holds(t, packed(row), r.Intn(900)).e]++
	}
	for _, e := range []api.Errno{api.OK, api.ErrBits, api.ErrBlock, api.ErrCodes, api.ErrCode, api.ErrFar, api.ErrLarge} {
		if seen[e] == 0 {
			t.Errorf("no wild stream says %v: %v", e, seen)
		}
	}
}
