package check

import (
	"slices"
	"testing"

	"palimpsest/api"
)

// holds bends a picture so that a cluster is held once more, each by another kind.
func holds() map[string]func(t testing.TB, p *picture, k int64) {
	return map[string]func(t testing.TB, p *picture, k int64){
		"counts":  func(t testing.TB, p *picture, k int64) { p.h.Counts = p.at(k); p.seal(t) },
		"block":   func(t testing.TB, p *picture, k int64) { p.word(p.at(inCounts)+8*spare(p, inCounts), uint64(p.at(k))) },
		"l1":      func(t testing.TB, p *picture, k int64) { p.h.L1 = p.at(k); p.seal(t) },
		"l2":      func(t testing.TB, p *picture, k int64) { p.word(p.at(inTwoL1), uint64(p.at(k))) },
		"data":    func(t testing.TB, p *picture, k int64) { p.word(p.at(inL2)+8*spare(p, inL2), data(p.at(k))) },
		"packed":  func(t testing.TB, p *picture, k int64) { p.word(p.at(inL2)+8*spare(p, inL2), packed(p.at(k)+3, 4)) },
		"snaps":   func(t testing.TB, p *picture, k int64) { p.h.SnapsAt = p.at(k); p.seal(t) },
		"bitmaps": func(t testing.TB, p *picture, k int64) { p.h.BitmapsAt = p.at(k); p.seal(t) },
		"row": func(t testing.TB, p *picture, k int64) {
			p.list(t, []api.Snap{{Name: "two", L1: p.at(inTwoL1), L1Len: 2}}, []api.Row{{Name: "x", Gran: 9, At: p.at(k), Len: 1}})
		},
		"snapped": func(t testing.TB, p *picture, k int64) {
			p.list(t, []api.Snap{{Name: "x", L1: p.at(k), L1Len: 1}}, []api.Row{{Name: "r", Gran: 9, At: p.at(inRow), Len: 1}})
		},
	}
}

// spare is the first word of a table that is 0.
func spare(p *picture, table int64) int64 {
	i := int64(0)
	for slices.Max(p.b[p.at(table)+8*i:p.at(table)+8*i+8]) > 0 {
		i++
	}
	return i
}

// P15.1: a cluster that is held by two, of all kinds, each once more.
func TestTwoHolders(t *testing.T) {
	p := drawn(t, 9, 4)
	for name, hold := range holds() {
		for k := int64(1); k < made; k++ {
			q := p.clone()
			hold(t, q, k)
			r := told(t, q.b)
			q.settle()
			if s := told(t, q.b); !slices.Equal(named(s), named(r)) && k != inBlock && k != inCounts && name != "counts" {
				t.Error(name, k, "counts change what is twice", r, s)
			}
		}
	}
}

// named is a report's finds of clusters that are held twice.
func named(r api.Report) []api.Find {
	return slices.DeleteFunc(slices.Clone(r.Finds), func(f api.Find) bool { return f.Kind != api.FindTwice })
}

// P15.1: a free cluster that is taken by one, two and three holders of these kinds.
func TestHoldersOfAFreeCluster(t *testing.T) {
	p := drawn(t, 9, 4)
	at := p.at(inFree)
	for _, row := range []struct {
		kinds []string
		twice bool
	}{
		{[]string{"data"}, false},
		{[]string{"data", "data"}, false},
		{[]string{"data", "data", "data"}, false},
		{[]string{"packed", "packed"}, false},
		{[]string{"packed", "packed", "packed"}, false},
		{[]string{"l2"}, false},
		{[]string{"block"}, false},
		{[]string{"block", "block"}, true},
		{[]string{"block", "block", "block"}, true},
		{[]string{"data", "packed"}, true},
		{[]string{"data", "data", "packed"}, true},
		{[]string{"data", "l2"}, true},
		{[]string{"packed", "l2"}, true},
		{[]string{"data", "packed", "l2"}, true},
		{[]string{"data", "block"}, true},
		{[]string{"row"}, false},
		{[]string{"row", "data"}, true},
		{[]string{"row", "l2"}, true},
		{[]string{"row", "block", "data"}, true},
		{[]string{"snapped", "data"}, true},
		{[]string{"l1", "row"}, true},
	} {
		q := p.clone()
		for _, kind := range row.kinds {
			holds()[kind](t, q, inFree)
		}
		r := told(t, q.b)
		many := uint64(len(row.kinds))
		if is := slices.Contains(r.Finds, twice(at, many)); is != row.twice || !slices.Contains(r.Finds, low(at, many, 0)) {
			t.Error(row.kinds, r)
		}
		if m, _ := Holders(q.b); m[inFree] != many {
			t.Error(row.kinds, m)
		}
	}
}

// P15.1: two rows, two snapshots, that have one run, or runs that lie one over the other in part.
func TestRunsOverEachOther(t *testing.T) {
	p := drawn(t, 9, 4)
	q := p.clone()
	q.list(t, nil, []api.Row{{Name: "a", Gran: 9, At: p.at(inRow), Len: 1024}, {Name: "b", Gran: 9, At: p.at(inRow + 1), Len: 513}})
	q.settle()
	finds(t, q, twice(p.at(inRow+1), 2))
	q = p.clone()
	q.list(t, nil, []api.Row{{Name: "a", Gran: 9, At: p.at(inRow), Len: 512}, {Name: "b", Gran: 9, At: p.at(inRow), Len: 1}, {Name: "c", Gran: 9, At: p.at(inRow), Len: 2}})
	q.settle()
	finds(t, q, twice(p.at(inRow), 3))
	q = p.clone()
	q.list(t, []api.Snap{{Name: "a", L1: p.at(inOneL1), L1Len: 65}, {Name: "b", L1: p.at(inTwoL1), L1Len: 2}}, nil)
	q.settle()
	finds(t, q, twice(p.at(inTwoL1), 2))
	// A snapshot whose table is the active one's.
	q = p.clone()
	q.list(t, []api.Snap{{Name: "a", L1: p.at(inL1), L1Len: 1}}, nil)
	q.settle()
	finds(t, q, twice(p.at(inL1), 2))
	if m, _ := Holders(q.b); m[inL2] != 2 || m[inData] != 2 || m[inPacked] != 4 || m[inShared] != 1 || m[inOther] != 1 {
		t.Error(m)
	}
}

// P15.1: an L1 table that leads to one table several times holds what that leads to as often, and so often its entries are counted.
func TestOneTableManyTimes(t *testing.T) {
	p := drawn(t, 9, 6)
	p.word(p.at(inL1)+8, uint64(p.at(inL2)))
	p.word(p.at(inL1)+16, uint64(p.at(inL2)))
	p.settle()
	if r := finds(t, p); r.Data != 3 || r.Packed != 6 || r.Zero != 3 {
		t.Error(r)
	}
	if m, _ := Holders(p.b); m[inL2] != 3 || m[inData] != 3 || m[inPacked] != 6 || m[inShared] != 2 {
		t.Error(m)
	}
}

// P15.1: two snapshots that share a tree with the active one: the more holders there are, the more counts there must be.
func TestSharedTrees(t *testing.T) {
	p := drawn(t, 9, 4)
	p.word(p.at(inOneL1)+8, uint64(p.at(inL2)))
	p.list(t, []api.Snap{{Name: "one", L1: p.at(inOneL1), L1Len: 2, Size: 1024}, {Name: "two", L1: p.at(inTwoL1), L1Len: 2}}, nil)
	finds(t, p, low(4*512, 2, 1), low(6*512, 2, 1), low(8*512, 4, 2), leak(12*512, 0, 1), leak(13*512, 0, 1), leak(14*512, 0, 1))
	p.settle()
	if r := finds(t, p); r.Data != 2 || r.Packed != 2 || r.Zero != 2 {
		t.Error(r)
	}
	if m, _ := Holders(p.b); m[inL2] != 2 || m[inData] != 2 || m[inPacked] != 4 || m[inShared] != 3 || m[inOther] != 3 {
		t.Error(m)
	}
	// The active tree leads nowhere: what the snapshots hold is held all the same.
	clear(p.b[p.at(inL1) : p.at(inL1)+24])
	p.settle()
	if r := finds(t, p); r.Data != 0 || r.Packed != 0 || r.Zero != 0 || r.Held != 12 {
		t.Error(r)
	}
}
