package deflate

import (
	"bytes"
	"math/rand"
	"slices"
	"testing"

	"palimpsest/api"
	"palimpsest/bits"
	"palimpsest/huff"
	"palimpsest/lz"
)

// anyTokens are tokens, some of whose symbols come far more often than others.
func anyTokens(r *rand.Rand) []api.Token {
	var l []api.Token
	for c := range r.Intn(256) {
		for range 1 + r.Intn(1<<r.Intn(8)) {
			l = append(l, byteOf(byte(c)))
		}
	}
	if r.Intn(3) == 0 {
		return l
	}
	told := len(l)
	for range r.Intn(200) {
		if told == 0 {
			break
		}
		x := matchOf(min(3+r.Intn(1<<r.Intn(9)), 258), 1+r.Intn(min(told, 1<<r.Intn(16))))
		l = append(l, x)
		told += x.Length
	}
	return l
}

// P5.1: a block of any tokens has as many bits as was measured, by codes that may be; those of 15 bits, and codes of lengths that would have more than 7, among them.
func TestMeasured(t *testing.T) {
	r := rand.New(rand.NewSource(59))
	deep, kinds := 0, map[api.BlockKind]int{}
	for range 600 {
		l := anyTokens(r)
		plain, _, e := lz.Expand(api.MaxPlain, l...)
		if e != api.OK {
			t.Fatal(e)
		}
		x := ofTokens(l)
		kinds[x.kind]++
		var counts [19]uint32
		for _, y := range x.plan.row {
			counts[y.symbol]++
		}
		if lengths, _ := huff.Lengths(15, counts[:]...); slices.Max(lengths) > 7 {
			deep++
		}
		lengths, distances := Fixed()
		fixed, dynamic := press{bits.NewWriter()}, press{bits.NewWriter()}
		fixed.fixed(l, true)
		dynamic.dynamic(x.plan, l, true)
		if n := 3 + x.many.bits(lengths[:], distances[:]); fixed.to.Len() != n {
			t.Errorf("%d tokens, fixed: %d bits, measured %d", len(l), fixed.to.Len(), n)
		}
		if n := 3 + x.plan.bits + x.many.bits(x.plan.symbols, x.plan.distances); dynamic.to.Len() != n {
			t.Errorf("%d tokens, dynamic: %d bits, measured %d", len(l), dynamic.to.Len(), n)
		}
		if n := min(fixed.to.Len(), dynamic.to.Len(), 42+8*len(plain)); x.bits != n && len(plain) < 65536 {
			t.Errorf("%d tokens: %d bits, measured %d", len(l), n, x.bits)
		}
		for _, p := range []press{fixed, dynamic} {
			b := p.to.Bytes()
			if got, n, e := Unpack(b, len(plain)); !bytes.Equal(got, plain) || n != len(b) || e != api.OK {
				t.Errorf("%d tokens: %d bytes of %d, %v", len(l), len(got), n, e)
			}
		}
	}
	if deep == 0 || len(kinds) < 2 {
		t.Errorf("%d codes of lengths were too deep, the kinds %v", deep, kinds)
	}
}

// P5.1: stored blocks are measured as they are at most, and two blocks made one as their tokens together.
func TestMeasuredTogether(t *testing.T) {
	for _, n := range []int{0, 1, 65534, 65535, 65536, 131070, 131071} {
		p := press{bits.NewWriter()}
		p.put(0, 1)
		p.put(0, 5)
		was := p.to.Len()
		p.stored(make([]byte, n), false)
		if got := p.to.Len() - was; got != 3+storedBits(n) {
			t.Errorf("%d bytes: %d bits, measured %d", n, got, 3+storedBits(n))
		}
	}
	r := rand.New(rand.NewSource(60))
	for range 50 {
		a, b := anyTokens(r), anyTokens(r)
		if got, want := counted(a).and(counted(b)), counted(slices.Concat(a, b)); got != want {
			t.Errorf("%v, not %v", got, want)
		}
	}
}

// P5.1: lengths stand in as few symbols as repeats allow, and are the same again.
func TestRepeatsOfARow(t *testing.T) {
	for length := range 16 {
		for n := 1; n <= 300; n++ {
			for _, other := range []int{0, 3} {
				row := slices.Concat([]int{7}, full(n, length), []int{other})
				var back []int
				for _, x := range repeats(row) {
					least, width := times(x.symbol)
					if x.width != width || x.more >= 1<<width {
						t.Errorf("%d of %d: %v", n, length, x)
					}
					what := x.symbol
					if what == again {
						what = back[len(back)-1]
					} else if what > again {
						what = 0
					}
					back = append(back, full(least+int(x.more), what)...)
				}
				if !slices.Equal(back, row) {
					t.Errorf("%d of %d: %v", n, length, back)
				}
			}
		}
	}
	for _, x := range []struct{ length, n, want int }{{0, 1, 1}, {0, 2, 2}, {0, 3, 1}, {0, 10, 1}, {0, 11, 1}, {0, 138, 1}, {0, 139, 2}, {0, 141, 2}, {5, 1, 1}, {5, 3, 3}, {5, 4, 2}, {5, 7, 2}, {5, 8, 3}, {5, 10, 3}} {
		if l := repeats(full(x.n, x.length)); len(l) != x.want {
			t.Errorf("%d of %d: %v", x.n, x.length, l)
		}
	}
	for _, x := range []struct{ least, n, want int }{{4, 19, 4}, {4, 3, 3}, {1, 30, 1}, {0, 9, 0}} {
		if l := cropped(x.least, make([]int, x.n)); len(l) != x.want {
			t.Errorf("%d noughts, %d at least: %d", x.n, x.least, len(l))
		}
	}
	if l := cropped(1, []int{0, 4, 0, 2, 0, 0}); !slices.Equal(l, []int{0, 4, 0, 2}) {
		t.Error(l)
	}
}
