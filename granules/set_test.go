package granules

import (
	"math"
	"testing"

	"palimpsest/api"
)

// example is the map of the chapter's section 'Examples', with its first two calls done.
func example(t *testing.T) (*plain, *Map) {
	t.Helper()
	p, m := newPlain(5000, 10), made(t, 5000, 10)
	p.heldSet(t, m, 1000, 100)
	p.heldSet(t, m, 4999, 1)
	return p, m
}

// call is one about bytes, and what it answers.
type call struct {
	at, n int64
	many  int
	no    api.Errno
}

// P19.2: Set by rows, each of a map without dirty granules.
func TestSetRows(t *testing.T) {
	for _, x := range []call{
		{0, 0, 0, api.OK}, {1, 0, 0, api.OK}, {511, 0, 0, api.OK}, {1024, 0, 0, api.OK}, {4999, 0, 0, api.OK}, {5000, 0, 0, api.OK}, {5001, 0, 0, api.ErrRange}, {5119, 0, 0, api.ErrRange}, {5120, 0, 0, api.ErrRange},
		{0, 1, 1, api.OK}, {1023, 1, 1, api.OK}, {1023, 2, 2, api.OK}, {1024, 1, 1, api.OK}, {0, 1024, 1, api.OK}, {0, 1025, 2, api.OK}, {1, 1024, 2, api.OK}, {1, 1023, 1, api.OK},
		{4095, 1, 1, api.OK}, {4095, 2, 2, api.OK}, {4096, 1, 1, api.OK}, {4096, 904, 1, api.OK}, {4096, 905, 0, api.ErrRange}, {4999, 1, 1, api.OK}, {4999, 2, 0, api.ErrRange}, {5000, 1, 0, api.ErrRange},
		{0, 5000, 5, api.OK}, {0, 5001, 0, api.ErrRange}, {1, 5000, 0, api.ErrRange}, {1, 4999, 5, api.OK}, {0, 4096, 4, api.OK}, {0, 4097, 5, api.OK}, {0, 5120, 0, api.ErrRange},
		{-1, 0, 0, api.ErrArg}, {-1, 1, 0, api.ErrArg}, {-1, 2, 0, api.ErrArg}, {0, -1, 0, api.ErrArg}, {5, -1, 0, api.ErrArg}, {6000, -1, 0, api.ErrArg}, {-1, 6000, 0, api.ErrArg}, {-1, -1, 0, api.ErrArg},
		{math.MaxInt64, 0, 0, api.ErrRange}, {math.MaxInt64, 1, 0, api.ErrRange}, {math.MaxInt64, math.MaxInt64, 0, api.ErrRange}, {0, math.MaxInt64, 0, api.ErrRange}, {1, math.MaxInt64, 0, api.ErrRange}, {4999, math.MaxInt64 - 4998, 0, api.ErrRange},
		{math.MinInt64, 0, 0, api.ErrArg}, {0, math.MinInt64, 0, api.ErrArg}, {math.MinInt64, math.MinInt64, 0, api.ErrArg}, {math.MinInt64, math.MaxInt64, 0, api.ErrArg}, {math.MaxInt64, math.MinInt64, 0, api.ErrArg},
	} {
		m := made(t, 5000, 10)
		if many, no := m.Set(x.at, x.n); many != x.many || no != x.no {
			t.Errorf("Set(%d, %d): %d %v, want %d %v", x.at, x.n, many, no, x.many, x.no)
		}
		if _, dirty := m.Count(); dirty != x.many {
			t.Errorf("Set(%d, %d): %d are dirty", x.at, x.n, dirty)
		}
		newPlain(5000, 10).heldSet(t, made(t, 5000, 10), x.at, x.n)
		// Of bytes that were set before none is told once more.
		if many, no := m.Set(x.at, x.n); many != 0 || no != x.no {
			t.Errorf("Set(%d, %d) again: %d %v", x.at, x.n, many, no)
		}
	}
}

// P19.2: Reset by rows, each of a map all of whose granules are dirty.
func TestResetRows(t *testing.T) {
	for _, x := range []call{
		{0, 0, 0, api.OK}, {1, 0, 0, api.OK}, {1024, 0, 0, api.OK}, {4096, 0, 0, api.OK}, {4999, 0, 0, api.OK}, {5000, 0, 0, api.OK}, {5001, 0, 0, api.ErrRange}, {5120, 0, 0, api.ErrRange},
		{0, 1, 0, api.OK}, {0, 1023, 0, api.OK}, {0, 1024, 1, api.OK}, {0, 1025, 1, api.OK}, {1, 1023, 0, api.OK}, {1, 1024, 0, api.OK}, {1, 2046, 0, api.OK}, {1, 2047, 1, api.OK}, {1023, 1025, 1, api.OK}, {1024, 1024, 1, api.OK}, {1025, 1023, 0, api.OK}, {1023, 1024, 0, api.OK},
		{4096, 903, 0, api.OK}, {4096, 904, 1, api.OK}, {4097, 903, 0, api.OK}, {4095, 905, 1, api.OK}, {4096, 905, 0, api.ErrRange}, {4096, 1024, 0, api.ErrRange}, {3072, 1928, 2, api.OK}, {3072, 1927, 1, api.OK}, {4999, 1, 0, api.OK}, {4999, 2, 0, api.ErrRange}, {5000, 1, 0, api.ErrRange},
		{0, 5000, 5, api.OK}, {1, 4999, 4, api.OK}, {0, 4999, 4, api.OK}, {1, 4998, 3, api.OK}, {0, 5001, 0, api.ErrRange}, {0, 4096, 4, api.OK}, {0, 4097, 4, api.OK},
		{-1, 0, 0, api.ErrArg}, {-1, 1025, 0, api.ErrArg}, {0, -1, 0, api.ErrArg}, {6000, -1, 0, api.ErrArg}, {-1, 6000, 0, api.ErrArg}, {-1024, -1024, 0, api.ErrArg},
		{math.MaxInt64, 0, 0, api.ErrRange}, {math.MaxInt64, 1, 0, api.ErrRange}, {math.MaxInt64, math.MaxInt64, 0, api.ErrRange}, {0, math.MaxInt64, 0, api.ErrRange}, {1, math.MaxInt64, 0, api.ErrRange}, {4999, math.MaxInt64 - 4998, 0, api.ErrRange},
		{math.MinInt64, 0, 0, api.ErrArg}, {0, math.MinInt64, 0, api.ErrArg}, {math.MinInt64, math.MaxInt64, 0, api.ErrArg}, {math.MaxInt64, math.MinInt64, 0, api.ErrArg},
	} {
		p, m := newPlain(5000, 10), made(t, 5000, 10)
		p.heldSet(t, m, 0, 5000)
		if many, no := m.Reset(x.at, x.n); many != x.many || no != x.no {
			t.Errorf("Reset(%d, %d): %d %v, want %d %v", x.at, x.n, many, no, x.many, x.no)
		}
		if _, dirty := m.Count(); dirty != 5-x.many {
			t.Errorf("Reset(%d, %d): %d are dirty", x.at, x.n, dirty)
		}
		o := made(t, 5000, 10)
		o.Set(0, 5000)
		p.heldReset(t, o, x.at, x.n)
		if many, no := m.Reset(x.at, x.n); many != 0 || no != x.no {
			t.Errorf("Reset(%d, %d) again: %d %v", x.at, x.n, many, no)
		}
	}
}

// P19.2: the chapter's examples of these calls.
func TestSetAndResetOfTheExamples(t *testing.T) {
	p, m := example(t)
	if b := m.Bytes(); len(b) != 1 || b[0] != 0x13 {
		t.Error(b)
	}
	for _, x := range []call{{4096, 904, 1, api.OK}, {0, 1023, 0, api.OK}, {0, 1024, 1, api.OK}, {4999, 2, 0, api.ErrRange}} {
		if many, no := m.Reset(x.at, x.n); many != x.many || no != x.no {
			t.Error(x, many, no)
		}
		p.reset(x.at, x.n)
		p.tells(t, m)
	}
	for _, x := range []struct {
		at    int64
		dirty bool
		no    api.Errno
	}{{1023, false, api.OK}, {1024, true, api.OK}, {2047, true, api.OK}, {2048, false, api.OK}, {4999, false, api.OK}, {5000, false, api.ErrRange}, {-1, false, api.ErrRange}} {
		if dirty, no := m.Has(x.at); dirty != x.dirty || no != x.no {
			t.Error(x, dirty, no)
		}
	}
}

// P19.2: Set and Reset of all odd places and lengths, at either end of sizes and Grans.
func TestSetAndResetOfOddNumbers(t *testing.T) {
	for _, x := range []struct {
		size int64
		gran int
	}{{0, 9}, {0, 26}, {1, 9}, {1, 26}, {512, 9}, {513, 9}, {5000, 10}, {5120, 10}, {most, 26}, {most - 1, 26}, {most, 25}, {most, 20}, {most - 1, 20}} {
		for _, at := range odd() {
			for _, n := range append(odd(), x.size-at, x.size-at+1, x.size-at-1) {
				p, m := newPlain(x.size, x.gran), made(t, x.size, x.gran)
				p.heldSet(t, m, at, n)
				p.heldSet(t, m, 0, x.size)
				p.heldReset(t, m, at, n)
			}
		}
	}
}

// P19.2, P19.6: each granule's first and last bytes alone, and all between the edges of any two granules, over whole words too.
func TestSetAndResetOverWords(t *testing.T) {
	for _, x := range []struct {
		size int64
		gran int
	}{{5 << 9, 9}, {5<<9 - 1, 9}, {4<<9 + 1, 9}, {66 << 9, 9}, {65<<9 + 1, 9}, {130<<12 - 5, 12}} {
		none, full := newPlain(x.size, x.gran), newPlain(x.size, x.gran)
		full.set(0, x.size)
		empty, all := none.filled(t), full.filled(t)
		about := func(g int) []int64 {
			return []int64{none.first(g), none.first(g) + 1, none.last(g), none.last(g) + 1}
		}
		for from := range none.dirty {
			for to := from; to < len(none.dirty); to += 1 + len(none.dirty)/20 {
				for _, at := range about(from) {
					for _, end := range about(to) {
						if end < at {
							continue
						}
						none.another().heldSet(t, empty.Copy(), at, end-at)
						full.another().heldReset(t, all.Copy(), at, end-at)
					}
				}
			}
		}
		none.is(t, empty)
		full.is(t, all)
	}
}

// P19.2, P19.6: of small maps all places and lengths about the edges, byte by byte: behind Set each byte Has, behind Reset none that was not dirty before.
func TestSetAndResetByteByByte(t *testing.T) {
	for size := int64(1530); size <= 1540; size++ {
		for bits := range 8 {
			for _, at := range []int64{0, 1, 2, 510, 511, 512, 513, 1023, 1024, 1025, size - 2, size - 1, size} {
				for _, end := range []int64{0, 1, 2, 511, 512, 513, 1023, 1024, 1025, 1535, 1536, 1537, size - 2, size - 1, size} {
					if at > size || end > size || end < at {
						continue
					}
					bytewise(t, size, byte(bits), at, end-at)
				}
			}
		}
	}
}

// bytewise holds Set and Reset of the maps with these bytes, of the Gran 9, against what each byte Has.
func bytewise(t *testing.T, size int64, bits byte, at, n int64) {
	t.Helper()
	was, no := Open(size, 9, []byte{bits})
	if no != api.OK {
		t.Fatal(no)
	}
	set, reset := was.Copy(), was.Copy()
	more, no := set.Set(at, n)
	less, otherNo := reset.Reset(at, n)
	if no != api.OK || otherNo != api.OK {
		t.Fatal(no, otherNo)
	}
	_, before := was.Count()
	if _, many := set.Count(); many != before+more {
		t.Fatalf("%d %d: Set(%d, %d) tells %d, there were %d, there are %d", size, bits, at, n, more, before, many)
	}
	if _, many := reset.Count(); many != before-less {
		t.Fatalf("%d %d: Reset(%d, %d) tells %d, there were %d, there are %d", size, bits, at, n, less, before, many)
	}
	for x := range size {
		dirty, _ := was.Has(x)
		if inSet, no := set.Has(x); no != api.OK || (x >= at && x < at+n || dirty) && !inSet {
			t.Fatalf("%d %d: behind Set(%d, %d) %d is not dirty", size, bits, at, n, x)
		}
		inReset, no := reset.Has(x)
		if no != api.OK || inReset && !dirty {
			t.Fatalf("%d %d: behind Reset(%d, %d) %d is dirty", size, bits, at, n, x)
		}
		if (x < at || x >= at+n) && dirty && !inReset {
			t.Fatalf("%d %d: Reset(%d, %d) loses %d", size, bits, at, n, x)
		}
	}
}

// P19.2: Clear of none, of one, of all; what was set behind it is there.
func TestClear(t *testing.T) {
	for _, many := range []int{0, 1, 5, 63, 64, 65, 128, 200} {
		p := newPlain(int64(many)<<9, 9)
		for _, on := range []int{1, 2, 7, 1000} {
			for g := 0; g < many; g += on {
				p.dirty[g] = true
			}
			m := p.filled(t)
			if no := m.Clear(); no != api.OK {
				t.Fatal(no)
			}
			q := newPlain(p.size, 9)
			q.tells(t, m)
			if no := m.Clear(); no != api.OK {
				t.Fatal(no)
			}
			q.is(t, m)
			if many > 0 {
				q.heldSet(t, m, p.size-1, 1)
				q.tells(t, m)
			}
		}
	}
}

// P19.2: Has at all edges, of each granule that is dirty alone, at each Gran.
func TestHas(t *testing.T) {
	for gran := 9; gran <= 26; gran++ {
		for _, size := range []int64{0, 1, 1<<gran - 1, 1 << gran, 1<<gran + 1, 3 << gran, 3<<gran - 1} {
			if size > most {
				continue
			}
			p := newPlain(size, gran)
			p.tells(t, made(t, size, gran))
			for g := range p.dirty {
				q := p.another()
				q.dirty[g] = true
				q.tells(t, q.filled(t))
			}
		}
	}
}
