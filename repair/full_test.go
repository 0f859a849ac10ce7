package repair

import (
	"testing"

	"palimpsest/api"
)

// many is an image in which a cluster with data has that many holders; it tells the cluster.
func many(t testing.TB, bits, order int, holders int) (*picture, int64) {
	t.Helper()
	p := drawn(t, bits, order, 200)
	each := int(p.c / 8)
	d := p.filled('m')
	full, rest := make([]uint64, each), make([]uint64, each)
	for i := range each {
		full[i] = d
		if i < holders%each {
			rest[i] = d
		}
	}
	places := []uint64{uint64(p.table(rest...))}
	// A table that L1 leads to several times has as many holders, which must not be too many themselves.
	copies := []uint64{uint64(p.table(full...))}
	if order < 5 {
		for range 6 {
			copies = append(copies, uint64(p.table(full...)))
		}
	}
	for i := range holders / each {
		places = append(places, copies[i%len(copies)])
	}
	p.root(places...)
	return p.sealed(), int64(d) / p.c
}

// P18.1: just as many holders as a count can say, and one more: then it is full, whatever the count says.
func TestAsManyAsACountCanSay(t *testing.T) {
	for order, bits := range []int{9, 9, 9, 9, 9} {
		most := 1<<(1<<order) - 1
		for n := max(most-2, 1); n <= most+2; n++ {
			p, k := many(t, bits, order, n)
			for _, x := range []int{0, 1, most - 1, most} {
				q := p.bent(uint64(k), uint64(x))
				switch {
				case n > most:
					broken(t, q, api.ErrFull, api.FindLow)
				case x < n:
					tells(t, q, api.Fixed{Low: 1})
				case x > n:
					tells(t, q, api.Fixed{Leaks: 1})
				default:
					tells(t, q, api.Fixed{})
				}
			}
		}
	}
}

// P18.1: the same of counts of 32 bits, which take an L1 table of half a million entries.
func TestAsManyAsManyBitsCanSay(t *testing.T) {
	for _, n := range []int{1<<32 - 1, 1 << 32} {
		p, k := many(t, 16, 5, n)
		for _, x := range []uint64{0, 1, 1<<32 - 2} {
			s := p.bent(uint64(k), x, 190, 1).laid()
			f, no := mended(t, s)
			if n < 1<<32 && (f != api.Fixed{Low: 1, Leaks: 1} || no != api.OK) || n == 1<<32 && no != api.ErrFull {
				t.Error(n, x, f, no)
			}
		}
	}
}

// Errors: what is broken is told ahead of what is full, wherever it stands.
func TestBrokenAheadOfFull(t *testing.T) {
	p, k := many(t, 9, 1, 5)
	broken(t, p, api.ErrFull, api.FindLow)
	table := int64(read(p.b).word(p.h.L1))
	for _, x := range []uint64{0, 1, 3} {
		q := p.bent(uint64(k), x)
		q.word(table+100*4, 4)
		broken(t, q, api.ErrBroken, api.FindLow, api.FindEntry)
		q = p.bent(uint64(k), x)
		q.word(q.h.Counts+8, 9)
		broken(t, q, api.ErrBroken, api.FindLow, api.FindPlace)
		// A cluster of which no block tells, behind it and ahead of it.
		q = p.bent(uint64(k), x)
		q.grown(p.per() + 3)
		q.word(table+100*4, data((p.per()+1)*512))
		broken(t, q, api.ErrBroken, api.FindLow)
		q.word(q.h.Counts+8, uint64((p.per()+2)*512))
		q.word(q.h.Counts, 0)
		s := q.laid()
		_, no := mended(t, s)
		want(t, no, api.ErrBroken)
	}
}
