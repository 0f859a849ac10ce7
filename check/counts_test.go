package check

import (
	"math/rand"
	"slices"
	"testing"

	"palimpsest/api"
)

// P15.1: counts below and above the holders, of each width, of each cluster, of the file's and of others.
func TestCountsOfEachWidth(t *testing.T) {
	for order := 0; order <= 6; order++ {
		p := drawn(t, 9, order)
		fresh := told(t, p.b)
		if (len(fresh.Finds) == 0) != (order >= 1) {
			t.Fatal(order, fresh)
		}
		many := int64(4096) >> order
		most := uint64(1)<<(1<<order) - 1
		m, _ := Holders(p.b)
		for k := range many {
			// Of narrow counts there are many that nothing holds: each seventh of them, and the last ones.
			if k > made+2 && k < many-3 && k%7 != 0 {
				continue
			}
			for _, x := range []uint64{0, 1, 2, 3, most} {
				x = min(x, most)
				q := p.clone()
				q.count(k, x)
				r := told(t, q.b)
				var wanted []api.Find
				switch {
				case x < m[k]:
					wanted = []api.Find{low(k*512, m[k], x)}
				case x > m[k]:
					wanted = []api.Find{leak(k*512, m[k], x)}
				}
				got := slices.DeleteFunc(r.Finds, func(f api.Find) bool { return f.At != k*512 || f.Kind < api.FindLow })
				if !slices.Equal(got, wanted) {
					t.Fatal(order, k, x, got)
				}
			}
		}
	}
}

// P15.1: widths of one and two bits, of which the shared clusters' holders are more than a count can say.
func TestNarrowCounts(t *testing.T) {
	p := drawn(t, 9, 0)
	finds(t, p, low(5*512, 3, 1), low(7*512, 3, 1), low(8*512, 2, 0))
	p.count(inPacked, 1)
	finds(t, p, low(5*512, 3, 1), low(7*512, 3, 1), low(8*512, 2, 1))
	p = drawn(t, 9, 1)
	finds(t, p)
	p.count(inShared, 2)
	finds(t, p, low(5*512, 3, 2))
}

// P15.1: further blocks tell of clusters that are far beyond the file; Broken is not for leaks.
func TestFurtherBlocks(t *testing.T) {
	for order := 2; order <= 6; order++ {
		p := drawn(t, 9, order)
		many := int64(4096) >> order
		p.word(p.at(inCounts)+8*7, uint64(p.at(inFree)))
		p.count(inFree, 1)
		finds(t, p)
		p.b[p.at(inFree)+511] = 0x80
		high := uint64(1) << (1<<order - 1)
		finds(t, p, leak((8*many-1)*512, 0, high))
		p.b[p.at(inFree)] = 1
		finds(t, p, leak(7*many*512, 0, 1), leak((8*many-1)*512, 0, high))
		// The last entry of the table.
		p.word(p.at(inCounts)+8*7, 0)
		p.word(p.at(inCounts)+8*63, uint64(p.at(inFree)))
		finds(t, p, leak(63*many*512, 0, 1), leak((64*many-1)*512, 0, high))
	}
}

// P15.1: several entries of the table lead to one block: it tells of as many clusters, and is held twice.
func TestOneBlockManyTimes(t *testing.T) {
	p := drawn(t, 9, 4)
	p.word(p.at(inCounts)+8*2, uint64(p.at(inFree)))
	p.word(p.at(inCounts)+8*5, uint64(p.at(inFree)))
	p.b[p.at(inFree)+6] = 9
	p.count(inFree, 2)
	finds(t, p, twice(p.at(inFree), 2), leak((2*256+3)*512, 0, 9), leak((5*256+3)*512, 0, 9))
	// The first block once more: all its counts are told of other clusters, too.
	p = drawn(t, 9, 4)
	p.word(p.at(inCounts)+8, uint64(p.at(inBlock)))
	p.count(inBlock, 2)
	r := told(t, p.b)
	if len(r.Finds) != 1+made-1 || r.Finds[0] != twice(p.at(inBlock), 2) || r.Finds[1] != leak(256*512, 0, 1) || r.Finds[3] != leak(258*512, 0, 2) || !r.Broken {
		t.Error(r)
	}
}

// P15.1: clusters of the greatest size, counted at the greatest places.
func TestFarCounts(t *testing.T) {
	p := drawn(t, 16, 4)
	many := int64(1) << 19 >> 4
	at := p.at(inCounts) + 8*8191
	p.word(at, uint64(p.at(inFree)))
	p.b[p.at(inFree)+65535] = 1
	p.count(inFree, 1)
	finds(t, p, leak((8192*many-1)<<16, 0, 256))
}

// P15.1, P15.2: the table has several clusters, of which each entry counts.
func TestLongTableOfCounts(t *testing.T) {
	p := drawn(t, 9, 4)
	p.b = append(p.b, make([]byte, 3*512)...)
	p.word(p.at(made), uint64(p.at(inBlock)))
	p.word(p.at(made+2)+8*63, uint64(p.at(inFree)))
	p.b[p.at(inFree)+2] = 5
	p.h.Counts, p.h.CountsLen = p.at(made), 3
	p.seal(t)
	p.settle()
	if r := finds(t, p, leak((191*256+1)*512, 0, 5)); r.Held != made-1+3 {
		t.Error(r)
	}
	p.h.CountsLen = 2
	p.seal(t)
	p.settle()
	finds(t, p)
}

// P15.1: Want of each FindLow and FindLeak is what Holders tells, and Broken is for all but leaks.
func TestHoldersAgainstFinds(t *testing.T) {
	r := rand.New(rand.NewSource(151))
	for range 300 {
		order := r.Intn(7)
		p := drawn(t, 9, order)
		for range r.Intn(6) {
			p.count(r.Int63n(4096>>order), r.Uint64()>>r.Intn(64))
		}
		bend(r, p)
		report := told(t, p.b)
		m, _ := Holders(p.b)
		broken := false
		for _, f := range report.Finds {
			if f.Kind >= api.FindLow && f.Want != m[f.At/512] || f.Kind == api.FindTwice && f.Have != m[f.At/512] {
				t.Fatal(f, m)
			}
			broken = broken || f.Kind != api.FindLeak
		}
		if report.Broken != broken {
			t.Fatal(report)
		}
	}
}

// P15.2: an image of which nothing is found has no cluster with a count and without a holder.
func TestNothingFoundNothingLost(t *testing.T) {
	for order := 2; order <= 6; order++ {
		p := drawn(t, 9, order)
		m, _ := Holders(p.b)
		for k := range int64(4096) >> order {
			if m[k] != 0 {
				continue
			}
			for _, x := range []uint64{1, 2} {
				q := p.clone()
				q.count(k, x)
				finds(t, q, leak(k*512, 0, x))
			}
		}
	}
}
