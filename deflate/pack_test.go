package deflate

import (
	"bytes"
	"compress/flate"
	"io"
	"math"
	"math/rand"
	"slices"
	"strings"
	"sync"
	"testing"

	"palimpsest/api"
	"palimpsest/lz"
)

// plains are bytes of many kinds.
func plains() map[string][]byte {
	r := rand.New(rand.NewSource(56))
	any := make([]byte, 3000)
	r.Read(any)
	four := make([]byte, 5000)
	for i := range four {
		four[i] = "acgt"[r.Intn(4)]
	}
	words := bytes.Repeat([]byte("what was there before is written over; "), 300)
	for i := range words {
		if i%97 == 0 {
			words[i] = byte(i)
		}
	}
	far := append(slices.Clone(any[:40]), make([]byte, 32768)...)
	far = append(far, any[:40]...)
	rising := make([]byte, 256)
	for i := range rising {
		rising[i] = byte(i)
	}
	return map[string][]byte{
		"nothing": nil, "a byte": []byte("a"), "two": []byte("ab"), "three": []byte("aaa"), "five": []byte("aaaaa"),
		"a high byte": {255}, "each byte": rising, "each byte twice": append(slices.Clone(rising), rising...),
		"any bytes": any, "four kinds": four, "words": words, "far back": far,
		"no three bytes twice": noneTwice(9),
		"a sector of noughts":  make([]byte, 512), "noughts": make([]byte, 70000),
		"mixed": slices.Concat(words[:4000], any, four, words[:2000], make([]byte, 5000), any[:700]),
	}
}

// noneTwice are bytes of so many kinds, of which each three stand somewhere, and none twice: each next one is the greatest that may be.
func noneTwice(kinds int) []byte {
	b := []byte{0, 0}
	seen := map[string]bool{}
next:
	for {
		for c := kinds - 1; c >= 0; c-- {
			three := string(append(slices.Clone(b[len(b)-2:]), byte(c)))
			if !seen[three] {
				seen[three] = true
				b = append(b, byte(c))
				continue next
			}
		}
		return b
	}
}

// great are many bytes of two parts that are unlike.
func great(n int) []byte {
	r := rand.New(rand.NewSource(57))
	b := make([]byte, n)
	r.Read(b[:n/2])
	for i := n / 2; i < n; i++ {
		b[i] = "etaoin shrdlu\n"[min(r.Intn(14), r.Intn(14))]
	}
	return b
}

// made is what Pack makes, which must go.
func made(t *testing.T, b []byte, level int) []byte {
	t.Helper()
	p, e := Pack(b, level)
	if e != api.OK {
		t.Fatalf("Pack of %d bytes, level %d: %v", len(b), level, e)
	}
	return p
}

// goesBack wants what was packed to be the bytes again, as the package, the words of the chapter, if they are asked, and the library say.
func goesBack(t *testing.T, name string, b, p []byte, words bool) {
	t.Helper()
	for _, behind := range [][]byte{nil, {0}, {255, 255}} {
		if got, n, e := Unpack(append(slices.Clone(p), behind...), len(b)); !bytes.Equal(got, b) || n != len(p) || e != api.OK {
			t.Errorf("%s: %d bytes of %d, %v, not %d of %d", name, len(got), n, e, len(b), len(p))
		}
	}
	if got, err := io.ReadAll(flate.NewReader(bytes.NewReader(p))); !bytes.Equal(got, b) || err != nil {
		t.Errorf("%s: the library says %v of %d bytes", name, err, len(got))
	}
	if words {
		if want := holds(t, p, len(b)); !bytes.Equal(want.plain, b) || want.n != len(p) || want.e != api.OK {
			t.Errorf("%s: the words say %d bytes of %d, %v", name, len(want.plain), want.n, want.e)
		}
	}
}

// storedBytes is what the level 0 is to make, byte by byte.
func storedBytes(b []byte) []byte {
	var p []byte
	for {
		n, last := len(b), byte(1)
		if n > 65535 {
			n, last = 65535, 0
		}
		p = append(p, last, byte(n), byte(n>>8), ^byte(n), ^byte(n>>8))
		p = append(p, b[:n]...)
		if last == 1 {
			return p
		}
		b = b[n:]
	}
}

// P5.1, P5.5: the level 0, at the edges of its blocks.
func TestLevel0(t *testing.T) {
	b := great(api.MaxPlain)
	for n, blocks := range map[int]int{0: 1, 1: 1, 2: 1, 255: 1, 256: 1, 65534: 1, 65535: 1, 65536: 2, 131069: 2, 131070: 2, 131071: 3, 200000: 4, api.MaxPlain - 1: 17, api.MaxPlain: 17} {
		p := made(t, b[:n], 0)
		if !bytes.Equal(p, storedBytes(b[:n])) {
			t.Errorf("%d bytes: %d of them, beginning with %x", n, len(p), p[:5])
		}
		goesBack(t, "level 0", b[:n], p, n < 1000)
		l := listed(t, p, n)
		if len(l) != blocks {
			t.Errorf("%d bytes: %d blocks", n, len(l))
		}
		follow(t, "level 0", l, p, n)
	}
}

// follow wants blocks to follow each other without a gap, up to the end of a stream of so many bytes, which tells so many.
func follow(t *testing.T, name string, l []api.Block, p []byte, told int) {
	t.Helper()
	at, sum := 0, 0
	for i, x := range l {
		if x.From != at || x.To < x.From+3 || x.Last != (i == len(l)-1) {
			t.Errorf("%s: block %d of %d is %v, the one ahead ends at %d", name, i, len(l), x, at)
		}
		at = x.To
		sum += x.Bytes
	}
	if (at+7)/8 != len(p) || sum != told {
		t.Errorf("%s: the blocks end at %d of %d bytes, and tell %d, not %d", name, at, len(p), sum, told)
	}
}

// P5.1: the level 1, bit by bit: one fixed block of the tokens without looking ahead.
func TestLevel1(t *testing.T) {
	all := plains()
	all["where looking ahead would be of use"] = []byte("abcbcdexabcde")
	for name, b := range all {
		var l []api.Token
		tokens, e := lz.Tokens(b)
		if e != api.OK {
			t.Fatal(e)
		}
		for _, x := range tokens {
			l = append(l, x)
		}
		row := fixedBlock(true, l...)
		p := made(t, b, 1)
		if !bytes.Equal(p, packed(row)) {
			t.Errorf("%s: %x, not %x", name, cropTo(p), cropTo(packed(row)))
		}
		want := []api.Block{{Kind: api.BlockFixed, Last: true, From: 0, To: len(row), Bytes: len(b)}}
		if got := listed(t, p, len(b)); !slices.Equal(got, want) {
			t.Errorf("%s: %v, not %v", name, got, want)
		}
	}
}

// P5.1: the level 2 makes no more bytes than the others, and the same each time; P5.5: all levels go back.
func TestLevels(t *testing.T) {
	for name, b := range plains() {
		var sizes [3]int
		for level := range sizes {
			p := made(t, b, level)
			goesBack(t, name, b, p, true)
			follow(t, name, listed(t, p, len(b)), p, len(b))
			if again := made(t, slices.Clone(b), level); !bytes.Equal(p, again) {
				t.Errorf("%s: packed otherwise at level %d", name, level)
			}
			sizes[level] = len(p)
		}
		if sizes[2] > sizes[0] || sizes[2] > sizes[1] {
			t.Errorf("%s: %v bytes", name, sizes)
		}
	}
}

// P5.1, P5.5: short bytes of few kinds, all of them, at all levels.
func TestLevelsOfShortBytes(t *testing.T) {
	l := [][]byte{nil}
	for i := 0; i < len(l); i++ {
		b := l[i]
		if len(b) < 7 {
			for _, c := range []byte{0, 'a', 200} {
				l = append(l, append(slices.Clone(b), c))
			}
		}
		least := math.MaxInt
		for level := range 3 {
			p := made(t, b, level)
			if level == 2 && len(p) > least {
				t.Errorf("%x: %d bytes at level 2", b, len(p))
			}
			least = min(least, len(p))
			if got, n, e := Unpack(p, len(b)); !bytes.Equal(got, b) || n != len(p) || e != api.OK {
				t.Errorf("%x, level %d: %x %d %v", b, level, got, n, e)
			}
		}
	}
}

// P5.1: bytes where the levels 0 and 1 are hard to come up to: too few for codes of their own, and such where looking ahead is of no use.
func TestLevel2OfFewBytes(t *testing.T) {
	var all [][]byte
	high := make([]byte, 112)
	for i := range high {
		// Far from each other, so that to tell their codes' lengths takes many bits.
		high[i] = byte(144 + i*37%112)
		all = append(all, high[:i], append([]byte("a"), high[:i]...), append([]byte("abc"), high[:i]...))
	}
	for _, s := range []string{"aabbbabbabbbaaabbaaa", "abababbabaaaabbabbaabaab", "babbabaaabbaaabbabab", "bcaaaaabccbabcbacbaabaccaccbaa"} {
		all = append(all, []byte(s))
	}
	r := rand.New(rand.NewSource(58))
	for range 3000 {
		b := make([]byte, r.Intn(90))
		kinds := 2 + r.Intn(9)
		for i := range b {
			b[i] = byte(140 + r.Intn(kinds))
		}
		all = append(all, b)
	}
	for _, b := range all {
		p := made(t, b, 2)
		if least := min(len(made(t, b, 0)), len(made(t, b, 1))); len(p) > least {
			t.Errorf("%q: %d bytes, not %d", b, len(p), least)
		}
		if got, n, e := Unpack(p, len(b)); !bytes.Equal(got, b) || n != len(p) || e != api.OK {
			t.Errorf("%q: %q %d %v", b, got, n, e)
		}
	}
}

// P5.1: of bytes that are all the same the level 2 makes at most 64 + n / 800.
func TestAllTheSame(t *testing.T) {
	var l []int
	for n := range 700 {
		l = append(l, n)
	}
	for n := 700; n < 40000; n += 149 {
		l = append(l, n, n+1)
	}
	for _, n := range []int{64000, 65535, 65536, 100003, 258 * 1000, 258*2000 + 1, 258*2000 + 2, 258*2000 + 3, 258*2000 + 4, api.MaxPlain - 1, api.MaxPlain} {
		l = append(l, n)
	}
	for i, n := range l {
		b := bytes.Repeat([]byte{[]byte{0, 'a', 144, 255}[i%4]}, n)
		p := made(t, b, 2)
		if len(p) > 64+n/800 {
			t.Errorf("%d of %x: %d bytes, more than %d", n, b[0], len(p), 64+n/800)
		}
		if got, m, e := Unpack(p, n); !bytes.Equal(got, b) || m != len(p) || e != api.OK {
			t.Errorf("%d of the same: %d of %d, %v", n, len(got), m, e)
		}
	}
}

// P5.1: the level 2 is of use: codes of its own make text shorter, unlike parts have blocks of their own, and of any bytes it is as short as the level 0.
func TestLevel2IsShort(t *testing.T) {
	all := plains()
	if a, b := len(made(t, all["words"], 1)), len(made(t, all["words"], 2)); b >= a {
		t.Errorf("words: %d, and %d at level 1", b, a)
	}
	b := great(1 << 17)
	p := made(t, b, 2)
	goesBack(t, "great", b, p, false)
	kinds := map[api.BlockKind]int{}
	for _, x := range listed(t, p, len(b)) {
		kinds[x.Kind]++
	}
	if kinds[api.BlockStored] == 0 || kinds[api.BlockDynamic] == 0 || kinds[api.BlockDynamic] > 3 {
		t.Errorf("great: %v", kinds)
	}
	if half := len(made(t, b[:1<<16], 2)) + len(made(t, b[1<<16:], 2)); len(p) > half+half/100 {
		t.Errorf("great: %d bytes, its halves %d", len(p), half)
	}
}

// P5.1, P5.5: MaxPlain bytes at each level.
func TestMaxPlainPacked(t *testing.T) {
	b := great(api.MaxPlain)
	var sizes [3]int
	var wait sync.WaitGroup
	for level := range sizes {
		wait.Go(func() {
			p, e := Pack(b, level)
			sizes[level] = len(p)
			if got, n, f := Unpack(p, api.MaxPlain); e != api.OK || !bytes.Equal(got, b) || n != len(p) || f != api.OK {
				t.Error(level, e, len(got), n, f)
			}
			if got, n, e := Unpack(p, api.MaxPlain-1); got != nil || n != 0 || e != api.ErrLarge {
				t.Error(level, len(got), n, e)
			}
		})
	}
	wait.Wait()
	if sizes[2] > sizes[0] || sizes[2] > sizes[1] {
		t.Error(sizes)
	}
}

// P5.1: levels that are none, ahead of too many bytes.
func TestPackRefuses(t *testing.T) {
	much := make([]byte, api.MaxPlain+1)
	for _, level := range []int{-1, 3, -2, 4, math.MinInt, math.MaxInt, 1 << 32, 1<<32 + 1} {
		for _, b := range [][]byte{nil, {}, []byte("a"), much} {
			if p, e := Pack(b, level); p != nil || e != api.ErrArg {
				t.Errorf("%d bytes, level %d: %x %v", len(b), level, p, e)
			}
		}
	}
	for level := range 3 {
		if p, e := Pack(much, level); p != nil || e != api.ErrLong {
			t.Errorf("level %d: %d bytes, %v", level, len(p), e)
		}
		if p, e := Pack([]byte{}, level); !bytes.Equal(p, made(t, nil, level)) || e != api.OK {
			t.Errorf("level %d: %x %v", level, p, e)
		}
	}
}

// P5.1: the rows of the chapter.
func TestPackExamples(t *testing.T) {
	for _, x := range []struct {
		b     string
		level int
		want  []byte
	}{
		{"", 0, []byte{1, 0, 0, 255, 255}},
		{"a", 0, []byte{1, 1, 0, 254, 255, 0x61}},
		{"", 1, []byte{3, 0}},
		{"a", 1, []byte{0x4b, 4, 0}},
		{"aaaaa", 1, []byte{0x4b, 4, 1, 0}},
	} {
		if p := made(t, []byte(x.b), x.level); !bytes.Equal(p, x.want) {
			t.Errorf("%q, level %d: %x", x.b, x.level, p)
		}
	}
}

// P5.5: each beginning of what Pack makes, but for all of it, is ErrBits, if the bound is not below; a bound below is ErrLarge.
func TestBeginnings(t *testing.T) {
	for name, b := range plains() {
		b = b[:min(len(b), 1500)]
		for level := range 3 {
			p := made(t, b, level)
			for n := range p {
				for _, most := range []int{len(b), api.MaxPlain} {
					if got, m, e := Unpack(p[:n], most); got != nil || m != 0 || e != api.ErrBits {
						t.Errorf("%s, level %d, %d of %d: %d bytes, %d, %v", name, level, n, len(p), len(got), m, e)
					}
				}
			}
			for most := range b {
				if got, m, e := Unpack(p, most); got != nil || m != 0 || e != api.ErrLarge {
					t.Errorf("%s, level %d, bound %d of %d: %d bytes, %d, %v", name, level, most, len(b), len(got), m, e)
				}
			}
		}
	}
	b := great(140000)
	for level := range 3 {
		p := made(t, b, level)
		for _, n := range []int{0, 1, 4, 5, 65539, 65540, 65541, 65545, len(p) / 2, len(p) - 2, len(p) - 1} {
			if got, m, e := Unpack(p[:min(n, len(p)-1)], len(b)); got != nil || m != 0 || e != api.ErrBits {
				t.Errorf("level %d, %d of %d: %d bytes, %d, %v", level, n, len(p), len(got), m, e)
			}
		}
	}
}

// P5.5: packed bytes, one stream behind the other, are found by how many bytes each has.
func TestStreamsBehindEachOther(t *testing.T) {
	var all []byte
	var want []string
	for name, b := range plains() {
		for level := range 3 {
			all = append(all, made(t, b, level)...)
			want = append(want, name+string(b))
		}
	}
	for i, w := range want {
		b, n, e := Unpack(all, api.MaxPlain)
		if e != api.OK || !strings.HasSuffix(w, string(b)) {
			t.Fatalf("stream %d: %d bytes, %v", i, len(b), e)
		}
		all = all[n:]
	}
	if len(all) != 0 {
		t.Errorf("%d bytes are left", len(all))
	}
}

// P5.4: the lengths of the fixed code.
func TestFixed(t *testing.T) {
	symbols, distances := fixedLengths()
	l, d := Fixed()
	if !slices.Equal(l[:], symbols) || !slices.Equal(d[:], distances) {
		t.Error(l, d)
	}
}

// roomy is bytes with room behind them, and all of it.
func roomy(b []byte) (part, all []byte) {
	all = append(slices.Clone(b), "room behind the bytes"...)
	return all[:len(b)], all
}

// The bytes that are handed in are not changed, nor what is behind them; what is answered is apart from them.
func TestApart(t *testing.T) {
	for name, b := range plains() {
		for level := range 3 {
			part, all := roomy(b)
			was := slices.Clone(all)
			p := made(t, part, level)
			if !bytes.Equal(all, was) {
				t.Errorf("%s: Pack at level %d changes what it is given", name, level)
			}
			want := slices.Clone(p)
			for i := range all {
				all[i] ^= 0x55
			}
			if !bytes.Equal(p, want) {
				t.Errorf("%s: what Pack answers at level %d is not its own", name, level)
			}
			part, all = roomy(p)
			was = slices.Clone(all)
			got, _, _ := Unpack(part, len(b))
			other, _, _ := Unpack(part, len(b))
			listed(t, part, len(b))
			if !bytes.Equal(all, was) {
				t.Errorf("%s: Unpack or Blocks at level %d change what they are given", name, level)
			}
			for i := range all {
				all[i] ^= 0x55
			}
			for i := range other[:cap(other)] {
				other[:cap(other)][i] ^= 0x55
			}
			if !bytes.Equal(got, b) {
				t.Errorf("%s: what Unpack answers at level %d is not its own", name, level)
			}
		}
	}
}

// P5.3: Blocks may be left early, gone over again, twice at a time, and tells the bytes as they were when the call was made.
func TestBlocksGoneOverAgain(t *testing.T) {
	row := fixedBlock(false, bytesOf("abc")...)
	row += storedAt(len(row), false, []byte("defg"))
	row += dyn{symbols: one(257, 1, 'h', 256), distances: []int{0}}.block(bytesOf("hh")...)
	row += fixedBlock(true, matchOf(9, 9))
	b := packed(row)
	want := byWords(b, 18).blocks
	if len(want) != 4 {
		t.Fatal(want)
	}
	all, e := Blocks(b, 18)
	if e != api.OK {
		t.Fatal(e)
	}
	clear(b)
	for left := range 6 {
		var got []api.Block
		for i, x := range all {
			if i == left {
				break
			}
			got = append(got, x)
			var inner []api.Block
			for _, y := range all {
				inner = append(inner, y)
			}
			if !slices.Equal(inner, want) {
				t.Errorf("gone over inside: %v", inner)
			}
		}
		if !slices.Equal(got, want[:min(left, 4)]) {
			t.Errorf("left at %d: %v", left, got)
		}
	}
}

// P5.3: Blocks ahead of the first error, wherever it is; the bound counts what all blocks tell.
func TestBlocksAheadOfAnError(t *testing.T) {
	var rows []string
	row := ""
	for i := range 6 {
		rows = append(rows, row)
		if i%2 == 0 {
			row += storedAt(len(row), false, []byte("0123456789"))
		} else {
			row += fixedBlock(false, matchOf(10, 10))
		}
	}
	for i, s := range rows {
		for name, wrong := range map[string]string{"kind 3": "011", "nothing": "", "286": fixedRow(false, "s97", "s286"), "far": fixedRow(true, "s257", "d28", low(0, 13)), "large": fixedBlock(true, bytesOf(strings.Repeat("x", 100))...)} {
			l := listed(t, packed(s+wrong), 10*i+99)
			sum := 0
			for _, x := range l {
				sum += x.Bytes
			}
			if len(l) != i || sum != 10*i {
				t.Errorf("%s behind %d: %v", name, i, l)
			}
		}
		for most := range 10*i + 1 {
			if l := listed(t, packed(s+fixedBlock(true)), most); len(l) != most/10 && most < 10*i {
				t.Errorf("bound %d: %v", most, l)
			}
		}
		if l := listed(t, packed(s+fixedBlock(true)), 10*i); len(l) != i+1 || !l[i].Last {
			t.Errorf("%d and the last one: %v", i, l)
		}
	}
}

// Calls at the same time do not disturb each other.
func TestAtTheSameTime(t *testing.T) {
	b := plains()["mixed"]
	want := made(t, b, 2)
	all, _ := Blocks(want, len(b))
	blocks := byWords(want, len(b)).blocks
	var wait sync.WaitGroup
	for range 8 {
		wait.Go(func() {
			p, _ := Pack(b, 2)
			got, _, _ := Unpack(want, len(b))
			var l []api.Block
			for _, x := range all {
				l = append(l, x)
			}
			if !bytes.Equal(p, want) || !bytes.Equal(got, b) || !slices.Equal(l, blocks) {
				t.Error("another answer")
			}
		})
	}
	wait.Wait()
}
