package entry

import (
	"math"
	"math/rand"
	"testing"

	"palimpsest/api"
)

// P9.1: rows of entries, worked out by hand, and their words.
func TestWordRows(t *testing.T) {
	for _, r := range []struct {
		e    api.Entry
		bits int
		w    uint64
	}{
		{of(none, 0, 0), 9, 0},
		{of(zero, 0, 0), 9, 1},
		{of(data, 1024, 0), 9, 1026},
		{of(data, 512, 0), 9, 514},
		{of(packed, 1030, 5), 9, 67502103},
		{of(none, 0, 0), 16, 0},
		{of(zero, 0, 0), 16, 1},
		{of(data, 65536, 0), 16, 65538},
		{of(data, 268435456, 0), 16, 268435458},
		{of(data, 268435456, 0), 9, 268435458},
		{of(packed, 512, 1), 9, 0x2000007},
		{of(packed, 512, 511), 9, 0x20007ff},
		{of(packed, 513, 511), 9, 0x20107ff},
		{of(packed, 1023, 1), 9, 0x3ff0007},
		{of(packed, 1020, 4), 9, 0x3fc0013},
		{of(packed, 16384, 16383), 14, 0x4000ffff},
		{of(packed, 16385, 16383), 14, 0x4001ffff},
		{of(packed, 65536, 16383), 16, 0x10000ffff},
		{of(packed, 114689, 16383), 16, 0x1c001ffff},
		{of(packed, 268435455, 1), 16, 0xfffffff0007},
		{of(packed, 268435455, 1), 9, 0xfffffff0007},
	} {
		if no := Check(r.e, r.bits); no != api.OK {
			t.Errorf("Check of %+v by %d: %v", r.e, r.bits, no)
		}
		if w, no := Word(r.e, r.bits); w != r.w || no != api.OK {
			t.Errorf("Word of %+v by %d: %#x %v", r.e, r.bits, w, no)
		}
		if e, no := Of(r.w, r.bits); e != r.e || no != api.OK {
			t.Errorf("Of %#x by %d: %+v %v", r.w, r.bits, e, no)
		}
	}
}

// P9.1: entries that may not be, each for one reason.
func TestEntriesThatMayNotBe(t *testing.T) {
	for _, r := range []struct {
		why  string
		e    api.Entry
		bits int
	}{
		{"a kind above", of(4, 0, 0), 9},
		{"a kind above, with a place", of(4, 512, 0), 9},
		{"a kind above, with a piece", of(7, 1030, 5), 9},
		{"a kind below 0", of(-1, 0, 0), 9},
		{"a kind below 0, with a place", of(-2, 512, 0), 9},
		{"a huge kind", of(math.MaxInt, 0, 0), 9},
		{"the least kind", of(math.MinInt, 0, 0), 9},
		{"a kind that wraps round to noughts", of(1<<32+1, 0, 0), 9},
		{"nothing, at a place", of(none, 512, 0), 9},
		{"nothing, at a place below 0", of(none, -512, 0), 9},
		{"nothing, with a length", of(none, 0, 1), 9},
		{"nothing, with a length below 0", of(none, 0, -1), 9},
		{"noughts, at a place", of(zero, 512, 0), 9},
		{"noughts, at the least place", of(zero, math.MinInt64, 0), 9},
		{"noughts, with a length", of(zero, 0, 1), 9},
		{"noughts, with both", of(zero, 512, 1), 9},
		{"data at 0", of(data, 0, 0), 9},
		{"data below 0", of(data, -512, 0), 9},
		{"data at the least place", of(data, math.MinInt64, 0), 9},
		{"data at no multiple", of(data, 1000, 0), 9},
		{"data at no multiple, below a cluster", of(data, 256, 0), 9},
		{"data at a multiple of a smaller cluster", of(data, 512, 0), 10},
		{"data at a multiple of half a cluster", of(data, 98304, 0), 16},
		{"data above MaxFile", of(data, 268435456+512, 0), 9},
		{"data above MaxFile, of the greatest clusters", of(data, 268435456+65536, 0), 16},
		{"data at a huge place", of(data, math.MaxInt64-511, 0), 9},
		{"data with a length", of(data, 512, 1), 9},
		{"data with a length below 0", of(data, 512, -1), 9},
		{"data with a cluster's length", of(data, 512, 512), 9},
		{"packed, no bytes", of(packed, 1024, 0), 9},
		{"packed, bytes below 0", of(packed, 1024, -1), 9},
		{"packed, the least bytes", of(packed, 1024, math.MinInt), 9},
		{"packed, a whole cluster", of(packed, 1024, 512), 9},
		{"packed, a whole cluster of 2^13", of(packed, 8192, 8192), 13},
		{"packed, a whole cluster of 2^14", of(packed, 16384, 16384), 14},
		{"packed, too many bytes for a word", of(packed, 65536, 16384), 15},
		{"packed, too many bytes for a word, by 16", of(packed, 65536, 16384), 16},
		{"packed, a cluster but one byte, by 16", of(packed, 65536, 65535), 16},
		{"packed, huge bytes", of(packed, 1024, math.MaxInt), 9},
		{"packed, bytes that wrap round to 1", of(packed, 1024, 1<<32+1), 9},
		{"packed, one past its cluster", of(packed, 1020, 5), 9},
		{"packed, from the last byte on", of(packed, 1023, 2), 9},
		{"packed, most bytes one past", of(packed, 514, 511), 9},
		{"packed, one past its cluster, by 16", of(packed, 114690, 16383), 16},
		{"packed, in the head's cluster", of(packed, 100, 5), 9},
		{"packed, at the head", of(packed, 0, 5), 9},
		{"packed, up to the head's cluster's end", of(packed, 511, 1), 9},
		{"packed, one below the second cluster, by 16", of(packed, 65535, 1), 16},
		{"packed, from the head's cluster on into the next", of(packed, 511, 2), 9},
		{"packed, below 0", of(packed, -512, 5), 9},
		{"packed, from below 0 on", of(packed, -1, 5), 9},
		{"packed, at the least place", of(packed, math.MinInt64, 5), 9},
		{"packed, at MaxFile", of(packed, 268435456, 1), 9},
		{"packed, at MaxFile, by 16", of(packed, 268435456, 1), 16},
		{"packed, one past MaxFile", of(packed, 268435455, 2), 9},
		{"packed, at a huge place", of(packed, math.MaxInt64, 1), 9},
		{"packed, at a huge place, most bytes", of(packed, math.MaxInt64-510, 511), 9},
		{"packed, at a place that a word has no bits for", of(packed, 1<<48+1024, 5), 9},
	} {
		if no := Check(r.e, r.bits); no != api.ErrArg {
			t.Errorf("%s: Check: %v", r.why, no)
		}
		if w, no := Word(r.e, r.bits); w != 0 || no != api.ErrArg {
			t.Errorf("%s: Word: %#x %v", r.why, w, no)
		}
		if words(r.e, r.bits) {
			t.Errorf("%s: the words allow it", r.why)
		}
	}
}

// places are where entries may begin, and may not, around each edge that the words name.
func places(cluster int64) []int64 {
	l := []int64{math.MinInt64, math.MinInt64 + 1, -maxFile, math.MaxInt64, math.MaxInt64 - 16382, 1 << 48, 1<<48 + cluster, 1 << 61, 1 << 62, 1<<32 + cluster}
	for _, mid := range []int64{0, cluster / 2, cluster, 2 * cluster, 5 * cluster, maxFile - cluster, maxFile, maxFile + cluster, math.MaxInt64 - cluster, -cluster} {
		for _, by := range []int64{-cluster, -16384, -16383, -512, -2, -1, 0, 1, 2, 8, 512, 16383, 16384} {
			l = append(l, mid+by)
		}
	}
	return l
}

// lengths are as many bytes as may be packed, and may not.
func lengths(cluster int64) []int {
	return []int{math.MinInt, -1 << 32, -16383, -1, 0, 1, 2, 3, 511, 512, 513, int(cluster/2) - 1, int(cluster) - 2, int(cluster) - 1, int(cluster), int(cluster) + 1, 16382, 16383, 16384, 16385, 32767, 65535, 1<<32 + 1, math.MaxInt - 1, math.MaxInt}
}

// P9.1 and P9.4: all kinds, places and lengths around the edges, by all bits, as the words have it; and there and back.
func TestEntriesAroundEdges(t *testing.T) {
	kinds := []int{math.MinInt, -4, -1, none, zero, data, packed, 4, 5, 6, 7, 258, 1<<32 + 2, math.MaxInt}
	for bits := 9; bits <= 16; bits++ {
		cluster := int64(1) << bits
		many := map[int]int{}
		for _, kind := range kinds {
			for _, place := range places(cluster) {
				for _, long := range lengths(cluster) {
					if held(t, of(kind, place, long), bits) {
						many[kind]++
					}
				}
			}
		}
		if len(many) != 4 || many[data] < 5 || many[packed] < 50 {
			t.Error("too few that may be", bits, many)
		}
	}
}

// P9.1 and P9.4: entries that are drawn, and those at the bounds.
func TestEntriesDrawn(t *testing.T) {
	r := rand.New(rand.NewSource(91))
	for bits := 9; bits <= 16; bits++ {
		for _, e := range good(bits) {
			if !held(t, e, bits) {
				t.Errorf("%+v by %d is none", e, bits)
			}
		}
		for range 2000 {
			if e := drawn(r, bits); !held(t, e, bits) {
				t.Errorf("%+v by %d is none", e, bits)
			}
		}
	}
}

// P9.1: bits that there are no clusters of are refused, whatever stands beside them.
func TestBitsThatMayNotBe(t *testing.T) {
	for _, bits := range oddBits() {
		for _, e := range append(good(9), append(good(16), of(4, 0, 0), of(data, 0, 0), of(packed, 0, 0))...) {
			if no := Check(e, bits); no != api.ErrArg {
				t.Errorf("Check of %+v by %d: %v", e, bits, no)
			}
			if w, no := Word(e, bits); w != 0 || no != api.ErrArg {
				t.Errorf("Word of %+v by %d: %d %v", e, bits, w, no)
			}
		}
		for _, w := range []uint64{0, 1, 2, 3, 4, 5, 514, 65538, 67502103, 1 << 63, math.MaxUint64} {
			if e, no := Of(w, bits); e != (api.Entry{}) || no != api.ErrArg {
				t.Errorf("Of %d by %d: %+v %v", w, bits, e, no)
			}
		}
	}
	for bits := 9; bits <= 16; bits++ {
		if Check(api.Entry{}, bits) != api.OK {
			t.Error(bits)
		}
	}
}

// P9.1: words that are no entry's, each for one reason.
func TestWordsThatAreNone(t *testing.T) {
	for _, r := range []struct {
		why  string
		w    uint64
		bits int
	}{
		{"nothing, with its lowest other bit", 4, 9},
		{"nothing, with the highest bit", 1 << 63, 9},
		{"nothing, with a place", 1024, 9},
		{"noughts, with its lowest other bit", 5, 9},
		{"noughts, with the highest bit", 1<<63 | 1, 9},
		{"noughts, with a place", 1025, 9},
		{"data at 0", 2, 9},
		{"data with its lowest other bit", 514 + 4, 9},
		{"data with half a cluster's bit", 514 + 256, 9},
		{"data at half a cluster", 514, 10},
		{"data above MaxFile", 268435456 + 512 + 2, 9},
		{"data below 0", 1<<63 | 514, 9},
		{"data at the least place", 1<<63 | 2, 9},
		{"data at minus one cluster", 1<<64 - 512 + 2, 9},
		{"packed, nothing else", 3, 9},
		{"packed at 0", 1027, 9},
		{"packed, no bytes", 1024<<16 | 3, 9},
		{"packed, a whole cluster", 1024<<16 | 512<<2 | 3, 9},
		{"packed, 16383 bytes of small clusters", 16384<<16 | 16383<<2 | 3, 13},
		{"packed, one past its cluster", 1020<<16 | 5<<2 | 3, 9},
		{"packed, in the head's cluster", 100<<16 | 5<<2 | 3, 9},
		{"packed at MaxFile", 268435456<<16 | 1<<2 | 3, 9},
		{"packed at the highest place", (1<<48-1)<<16 | 1<<2 | 3, 9},
		{"packed, with the highest bit", 1<<63 | 67502103, 9},
		{"all bits", math.MaxUint64, 9},
		{"all bits, by 16", math.MaxUint64, 16},
	} {
		if e, no := Of(r.w, r.bits); e != (api.Entry{}) || no != api.ErrEntry {
			t.Errorf("%s: %+v %v", r.why, e, no)
		}
		if mayWord(r.w, r.bits) {
			t.Errorf("%s: the words allow it", r.why)
		}
	}
}

// P9.1 and P9.4: entries' words with each single bit changed, and each two: another entry's word, or none.
func TestWordsWithBitsChanged(t *testing.T) {
	for bits := 9; bits <= 16; bits++ {
		others, nones := 0, 0
		for _, e := range good(bits) {
			w := number(e)
			for i := range 64 {
				for j := range 64 {
					// Of i and i again just the one bit is changed.
					if heldWord(t, w^(1<<i|1<<j), bits) {
						others++
					} else {
						nones++
					}
				}
			}
		}
		if others < 300 || nones < 10000 {
			t.Error(bits, others, nones)
		}
	}
}

// P9.1 and P9.4: all words of few bits, and words that are drawn.
func TestWordsDrawn(t *testing.T) {
	for w := range uint64(70000) {
		heldWord(t, w, 9)
		heldWord(t, w, 16)
	}
	r := rand.New(rand.NewSource(92))
	for bits := 9; bits <= 16; bits++ {
		for range 5000 {
			heldWord(t, r.Uint64()>>r.Intn(64), bits)
			heldWord(t, number(drawn(r, bits))+uint64(r.Intn(9))-4, bits)
			heldWord(t, uint64(r.Intn(maxFile+1<<17))<<16|uint64(r.Intn(1<<bits+9)<<2&0xfffc)|3, bits)
		}
	}
}
