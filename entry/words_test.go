package entry

import (
	"encoding/binary"
	"math"
	"math/big"
	"math/rand"
	"testing"

	"palimpsest/api"
)

// Kinds and bounds as the chapter numbers them, apart from package api.
const (
	none    = 0
	zero    = 1
	data    = 2
	packed  = 3
	maxFile = 268435456
)

// of is an entry, of numbers alone.
func of(kind int, place int64, long int) api.Entry {
	return api.Entry{Kind: api.EntryKind(kind), Place: place, Len: long}
}

// oddBits are bits that there are no clusters of.
func oddBits() []int {
	return []int{8, 17, 0, 1, -1, 7, 18, 25, 32, 63, 64, 65, 73, 265, -9, -16, 1 << 32, 1<<32 + 9, 1<<32 + 16, math.MaxInt, math.MinInt, math.MinInt + 9}
}

// words tells whether an entry may be, as the chapter's section 'Words' says it, in numbers that never wrap round.
func words(e api.Entry, bits int) bool {
	if bits < 9 || bits > 16 {
		return false
	}
	cluster := new(big.Int).Exp(big.NewInt(2), big.NewInt(int64(bits)), nil)
	place, long := big.NewInt(e.Place), big.NewInt(int64(e.Len))
	switch int(e.Kind) {
	case none, zero:
		return place.Sign() == 0 && long.Sign() == 0
	case data:
		multiple := new(big.Int).Mod(place, cluster).Sign() == 0
		return long.Sign() == 0 && multiple && place.Sign() > 0 && place.Cmp(big.NewInt(maxFile)) <= 0
	case packed:
		if long.Sign() <= 0 || long.Cmp(cluster) >= 0 || long.Cmp(big.NewInt(16383)) > 0 || place.Cmp(cluster) < 0 {
			return false
		}
		last := new(big.Int).Add(place, new(big.Int).Sub(long, big.NewInt(1)))
		same := new(big.Int).Div(place, cluster).Cmp(new(big.Int).Div(last, cluster)) == 0
		return same && last.Cmp(big.NewInt(maxFile)) < 0
	}
	return false
}

// number is the word that 'The format' says, of an entry that may be.
func number(e api.Entry) uint64 {
	switch int(e.Kind) {
	case data:
		return uint64(e.Place) + 2
	case packed:
		return uint64(e.Place)*65536 + uint64(e.Len)*4 + 3
	}
	return uint64(e.Kind)
}

// said is the entry that a word says, and whether the words allow it.
func said(w uint64, bits int) (api.Entry, bool) {
	e := of(int(w%4), 0, 0)
	switch w % 4 {
	case none, zero:
		if w > 1 {
			return api.Entry{}, false
		}
	case data:
		e.Place = int64(w - 2)
	case packed:
		e.Place, e.Len = int64(w/65536), int(w%65536/4)
	}
	if !words(e, bits) {
		return api.Entry{}, false
	}
	return e, true
}

// held holds Check, Word and Of against the words, and there and back.
func held(t *testing.T, e api.Entry, bits int) bool {
	t.Helper()
	w, no := Word(e, bits)
	if !words(e, bits) {
		if c := Check(e, bits); c != api.ErrArg {
			t.Fatalf("Check of %+v by %d: %v", e, bits, c)
		}
		if w != 0 || no != api.ErrArg {
			t.Fatalf("Word of %+v by %d: %d %v", e, bits, w, no)
		}
		return false
	}
	if c := Check(e, bits); c != api.OK {
		t.Fatalf("Check of %+v by %d: %v", e, bits, c)
	}
	if w != number(e) || no != api.OK {
		t.Fatalf("Word of %+v by %d: %d %v, want %d", e, bits, w, no, number(e))
	}
	if back, no := Of(w, bits); back != e || no != api.OK {
		t.Fatalf("Of of Word of %+v by %d: %+v %v", e, bits, back, no)
	}
	return true
}

// heldWord holds Of against the words, and there and back.
func heldWord(t *testing.T, w uint64, bits int) bool {
	t.Helper()
	want, may := said(w, bits)
	e, no := Of(w, bits)
	if !may {
		if e != (api.Entry{}) || no != api.ErrEntry {
			t.Fatalf("Of %#x by %d: %+v %v", w, bits, e, no)
		}
		return false
	}
	if e != want || no != api.OK {
		t.Fatalf("Of %#x by %d: %+v %v, want %+v", w, bits, e, no, want)
	}
	if back, no := Word(e, bits); back != w || no != api.OK {
		t.Fatalf("Word of Of %#x by %d: %#x %v", w, bits, back, no)
	}
	return true
}

// good is one entry of each kind, and such as stand at their bounds; all of them may be by these bits.
func good(bits int) []api.Entry {
	cluster := int64(1) << bits
	most := min(int(cluster)-1, 16383)
	return []api.Entry{
		of(none, 0, 0), of(zero, 0, 0),
		of(data, cluster, 0), of(data, 3*cluster, 0), of(data, maxFile-cluster, 0), of(data, maxFile, 0),
		of(packed, cluster, 1), of(packed, cluster, most), of(packed, 2*cluster-int64(most), most), of(packed, 3*cluster-1, 1), of(packed, 2*cluster+7, 5),
		of(packed, maxFile-int64(most), most), of(packed, maxFile-1, 1), of(packed, maxFile-cluster, most),
	}
}

// drawn is an entry that may be by these bits.
func drawn(r *rand.Rand, bits int) api.Entry {
	cluster := int64(1) << bits
	k := 1 + r.Int63n(maxFile/cluster-1)
	switch r.Intn(4) {
	case data:
		return of(data, k*cluster, 0)
	case packed:
		long := 1 + r.Int63n(min(cluster-1, 16383))
		return of(packed, k*cluster+r.Int63n(cluster-long+1), int(long))
	case zero:
		return of(zero, 0, 0)
	}
	return api.Entry{}
}

// wrong is a word that is no entry's by these bits.
func wrong(r *rand.Rand, bits int) uint64 {
	for {
		if w := r.Uint64() >> r.Intn(64); !mayWord(w, bits) {
			return w
		}
	}
}

// mayWord tells whether the words allow a word.
func mayWord(w uint64, bits int) bool {
	_, may := said(w, bits)
	return may
}

// laid is words one behind the other, the lowest byte first.
func laid(l ...uint64) []byte {
	var b []byte
	for _, w := range l {
		b = binary.LittleEndian.AppendUint64(b, w)
	}
	return b
}

// roomy is b with spare room behind it, and that whole room.
func roomy(b []byte) (short, whole []byte) {
	whole = append(append([]byte{}, b...), "spare room behind the table's bytes"...)
	return whole[:len(b)], whole
}
