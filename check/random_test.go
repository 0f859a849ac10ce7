package check

import (
	"bytes"
	"math/rand"
	"reflect"
	"testing"

	"palimpsest/api"
	"palimpsest/head"
)

// bend puts some word, that may mean something, to some place of a picture's tables.
func bend(r *rand.Rand, p *picture) {
	tables := []int64{inCounts, inL1, inL2, inShared, inOneL1, inTwoL1, inFree, inBlock}
	at := p.at(tables[r.Intn(len(tables))]) + 8*r.Int63n(6)
	p.word(at, someWord(r, p.c))
}

// someWord is a word that may mean something.
func someWord(r *rand.Rand, c int64) uint64 {
	place := r.Int63n(made+2) * c
	switch r.Intn(8) {
	case 0:
		return 0
	case 1:
		return uint64(r.Intn(8))
	case 2, 3:
		return uint64(place)
	case 4:
		return uint64(place + r.Int63n(c))
	case 5:
		return data(place)
	case 6:
		return packed(place+r.Int63n(c), r.Intn(int(c)))
	}
	return r.Uint64() >> r.Intn(64)
}

// P15.1, P15.2: pictures bent at several places, against the plain reckoning.
func TestBentPictures(t *testing.T) {
	t.Parallel()
	r := rand.New(rand.NewSource(152))
	for i := range 2000 {
		p := drawn(t, 9+i%2, r.Intn(7))
		for range 1 + r.Intn(5) {
			bend(r, p)
		}
		if r.Intn(2) == 0 {
			p.settle()
		}
		told(t, p.b[:len(p.b)-r.Intn(3)*r.Intn(2000)])
	}
}

// P15.1, P15.2: heads that may be, of all sorts, over the same clusters.
func TestBentHeads(t *testing.T) {
	t.Parallel()
	r := rand.New(rand.NewSource(153))
	taken := 0
	for range 3000 {
		p := drawn(t, 9, r.Intn(7))
		for range 1 + r.Intn(3) {
			spot := p.c * (1 + r.Int63n(made+2))
			switch r.Intn(9) {
			case 0:
				p.h.L1 = spot
			case 1:
				p.h.L1Len = 1 + r.Intn(200)
			case 2:
				p.h.Counts = spot
			case 3:
				p.h.CountsLen = 1 + r.Intn(3)
			case 4:
				p.h.SnapsAt = spot
			case 5:
				p.h.SnapsLen += r.Intn(3) - 1
			case 6:
				p.h.BitmapsAt = spot
			case 7:
				p.h.BitmapsLen += r.Intn(600)
			case 8:
				p.h.Order = r.Intn(7)
			}
		}
		s, no := head.Bytes(p.h)
		if no != api.OK {
			continue
		}
		taken++
		copy(p.b, s)
		told(t, p.b)
	}
	if taken < 1500 {
		t.Error("few heads", taken)
	}
}

// P15.2: a byte changed at each place of a small image, by several other bytes: it ends, and tells what is plain.
func TestEachByteChanged(t *testing.T) {
	t.Parallel()
	p := drawn(t, 9, 3)
	for at := range p.b {
		was := p.b[at]
		for _, x := range []byte{was ^ 1<<(at%8), ^was} {
			p.b[at] = x
			if _, no := head.Read(p.b); no == api.OK {
				told(t, p.b)
			} else {
				r, bad := Bytes(p.b)
				refused(t, r, bad, api.ErrHead)
			}
		}
		p.b[at] = was
	}
}

// P15.2: any bytes behind a head; it ends, and does not panic.
func TestAnyBytes(t *testing.T) {
	r := rand.New(rand.NewSource(154))
	for range 1000 {
		p := drawn(t, 9, r.Intn(7))
		for range r.Intn(4) {
			k := 1 + r.Int63n(made-1)
			r.Read(p.b[p.at(k) : p.at(k)+1+r.Int63n(p.c)])
		}
		if _, no := Bytes(p.b); no != api.OK {
			t.Fatal(no)
		}
		told(t, p.b)
	}
	for range 2000 {
		b := make([]byte, r.Intn(3000))
		r.Read(b)
		copy(b, "PAL1\x09\x00\x00\x00")
		Bytes(b)
		Holders(b)
	}
}

// P15.2: the finds do not change when bytes of data clusters do, nor those of clusters that nothing holds, nor those behind the head's sector.
func TestDataChanges(t *testing.T) {
	r := rand.New(rand.NewSource(155))
	for i := range 60 {
		p := drawn(t, 9+i%3, 2+r.Intn(5))
		bad := p.clone()
		bad.word(bad.at(inL2)+16, 1000)
		bad.word(bad.at(inL1)+8, 9)
		bad.count(inFree, 2)
		bad.count(inData, 0)
		for _, q := range []*picture{p, bad} {
			was, _ := Bytes(q.b)
			for _, k := range []int64{inData, inOther, inFree, inRow, inRowToo} {
				r.Read(q.b[q.at(k):q.at(k+1)])
			}
			r.Read(q.b[512:p.c])
			if now, no := Bytes(q.b); !reflect.DeepEqual(now, was) || no != api.OK {
				t.Fatal(now, was)
			}
		}
	}
}

// P15.1: the same bytes are told the same, however often.
func TestSameAgain(t *testing.T) {
	r := rand.New(rand.NewSource(156))
	for range 50 {
		p := drawn(t, 9, 1)
		for range 8 {
			bend(r, p)
		}
		was := bytes.Clone(p.b)
		a, _ := Bytes(p.b)
		for range 10 {
			b, _ := Bytes(p.b)
			if !reflect.DeepEqual(a, b) || !bytes.Equal(was, p.b) {
				t.Fatal(a, b)
			}
		}
	}
}
