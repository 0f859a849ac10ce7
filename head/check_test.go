package head

import (
	"math"
	"math/rand"
	"strings"
	"testing"

	"palimpsest/api"
)

// row is a change of a head that may be, and whether it may be behind that.
type row struct {
	name string
	bend func(*api.Head)
	may  bool
}

// judged holds Check against the rows, and all calls against the words.
func judged(t *testing.T, h api.Head, rows []row) {
	t.Helper()
	if Check(h) != api.OK {
		t.Fatalf("%+v may not be", h)
	}
	for _, r := range rows {
		x := bent(h, r.bend)
		want := api.ErrArg
		if r.may {
			want = api.OK
		}
		if e := Check(x); e != want {
			t.Errorf("%s: Check of %+v: %v, want %v", r.name, x, e, want)
		}
		held(t, x)
	}
}

// huge are numbers that no field may have.
func huge() []int64 {
	return []int64{math.MinInt64, math.MinInt64 + 1, math.MinInt64 + 512, -1 << 32, -1 << 31, -65536, -512, math.MaxInt64, math.MaxInt64 - 511, 1 << 62, 1<<32 + 9, 1<<32 + 512, 1 << 40}
}

// P8.1: the chapter's examples.
func TestExamples(t *testing.T) {
	judged(t, plain(), []row{
		{"as it is", func(h *api.Head) {}, true},
		{"L1Len 0", func(h *api.Head) { h.L1Len = 0 }, false},
		{"Bits 8", func(h *api.Head) { h.Bits = 8 }, false},
		{"L1 1000", func(h *api.Head) { h.L1 = 1000 }, false},
		{"Flags 2", func(h *api.Head) { h.Flags = 2 }, false},
	})
	held(t, api.Head{})
	held(t, full())
}

// P8.1: of each field the least and the greatest that may be, and one past each.
func TestCheckBounds(t *testing.T) {
	judged(t, plain(), []row{
		{"Bits 0", func(h *api.Head) { h.Bits = 0 }, false},
		{"Bits -1", func(h *api.Head) { h.Bits = -1 }, false},
		{"Bits 63", func(h *api.Head) { h.Bits = 63 }, false},
		{"Bits 64", func(h *api.Head) { h.Bits = 64 }, false},
		{"Flags 1", func(h *api.Head) { h.Flags = api.FlagDirty }, true},
		{"Flags 3", func(h *api.Head) { h.Flags = 3 }, false},
		{"Flags 2^63", func(h *api.Head) { h.Flags = 1 << 63 }, false},
		{"Flags 2^63 and 1", func(h *api.Head) { h.Flags = 1<<63 + 1 }, false},
		{"Flags 2^32", func(h *api.Head) { h.Flags = 1 << 32 }, false},
		{"Flags 2^64 - 1", func(h *api.Head) { h.Flags = math.MaxUint64 }, false},
		{"Order 0", func(h *api.Head) { h.Order = 0 }, true},
		{"Order 6", func(h *api.Head) { h.Order = 6 }, true},
		{"Order -1", func(h *api.Head) { h.Order = -1 }, false},
		{"Order 7", func(h *api.Head) { h.Order = 7 }, false},
		{"CountsLen 65536", func(h *api.Head) { h.CountsLen = 65536 }, true},
		{"CountsLen 65537", func(h *api.Head) { h.CountsLen = 65537 }, false},
		{"CountsLen 0", func(h *api.Head) { h.CountsLen = 0 }, false},
		{"CountsLen -1", func(h *api.Head) { h.CountsLen = -1 }, false},
	})
	for _, x := range huge() {
		for i, bend := range []func(*api.Head){
			func(h *api.Head) { h.Bits = int(x) }, func(h *api.Head) { h.Flags = uint64(x) }, func(h *api.Head) { h.Size = x },
			func(h *api.Head) { h.L1 = x }, func(h *api.Head) { h.L1Len = int(x) }, func(h *api.Head) { h.Order = int(x) },
			func(h *api.Head) { h.Counts = x }, func(h *api.Head) { h.CountsLen = int(x) },
			func(h *api.Head) { h.Snaps = int(x) }, func(h *api.Head) { h.SnapsAt = x }, func(h *api.Head) { h.SnapsLen = int(x) },
			func(h *api.Head) { h.Bitmaps = int(x) }, func(h *api.Head) { h.BitmapsAt = x }, func(h *api.Head) { h.BitmapsLen = int(x) },
		} {
			for _, h := range []api.Head{plain(), full()} {
				if e := Check(bent(h, bend)); e != api.ErrArg {
					t.Errorf("field %d as %d: %v", i, x, e)
				}
				held(t, bent(h, bend))
			}
		}
	}
}

// P8.1: Bits is from 9 to 16, with places that are multiples of the clusters below and above as well.
func TestCheckBits(t *testing.T) {
	for bits := -2; bits <= 70; bits++ {
		h := api.Head{Bits: bits, Size: 512, L1: 1 << 27, L1Len: 1, Counts: 1 << 28, CountsLen: 1}
		if e := Check(h); (e == api.OK) != (9 <= bits && bits <= 16) {
			t.Errorf("Bits %d: %v", bits, e)
		}
		held(t, h)
	}
}

// P8.1: Size is a multiple of 512, whatever the cluster, from 0 to MaxGuest.
func TestCheckSize(t *testing.T) {
	for bits := 9; bits <= 16; bits++ {
		h := api.Head{Bits: bits, L1: 1 << bits, L1Len: 2048, Counts: 1 << bits, CountsLen: 1}
		for size, may := range map[int64]bool{
			0: true, 512: true, 1024: true, 1536: true, 65536: true, 66048: true, api.MaxGuest - 512: true, api.MaxGuest: true,
			-512: false, -1: false, 1: false, 511: false, 513: false, 1000: false, 65535: false, api.MaxGuest - 1: false, api.MaxGuest + 1: false, api.MaxGuest + 512: false, 1 << 40: false,
		} {
			judged(t, h, []row{{"Size", func(h *api.Head) { h.Size = size }, may}})
		}
	}
}

// P8.1: L1Len is from just what Size needs to 2^20.
func TestCheckL1Len(t *testing.T) {
	for bits := 9; bits <= 16; bits++ {
		whole := int64(1) << bits << (bits - 3) // the guest's bytes of one L2 table
		for size, need := range map[int64]int{
			512: 1, 1024: 1, whole - 512: 1, whole: 1, whole + 512: 2, 2 * whole: 2, 2*whole + 512: 3, 5*whole - 512: 5, 5 * whole: 5, api.MaxGuest: int(api.MaxGuest / whole),
		} {
			if size > api.MaxGuest {
				continue
			}
			if need == 0 {
				need = 1
			}
			h := api.Head{Bits: bits, Size: size, L1: 3 << bits, L1Len: need, Counts: 1 << bits, CountsLen: 1}
			judged(t, h, []row{
				{"one below", func(h *api.Head) { h.L1Len-- }, false},
				{"none", func(h *api.Head) { h.L1Len, h.L1 = 0, 0 }, false},
				{"one above", func(h *api.Head) { h.L1Len++ }, true},
				{"most", func(h *api.Head) { h.L1Len = 1 << 20 }, true},
				{"above most", func(h *api.Head) { h.L1Len = 1<<20 + 1 }, false},
				{"below 0", func(h *api.Head) { h.L1Len = -1 }, false},
				{"below 0, without L1", func(h *api.Head) { h.L1Len, h.L1 = -1, 0 }, false},
			})
		}
	}
}

// P8.1: without a size there may be L1 entries, and need not be; L1 is there just if they are.
func TestCheckL1(t *testing.T) {
	h := api.Head{Bits: 9, Counts: 512, CountsLen: 1}
	judged(t, h, []row{
		{"neither", func(h *api.Head) {}, true},
		{"L1 alone", func(h *api.Head) { h.L1 = 1024 }, false},
		{"L1 of no cluster alone", func(h *api.Head) { h.L1 = 1 }, false},
		{"L1 below 0 alone", func(h *api.Head) { h.L1 = -512 }, false},
		{"L1Len alone", func(h *api.Head) { h.L1Len = 1 }, false},
		{"both", func(h *api.Head) { h.L1, h.L1Len = 1024, 1 }, true},
		{"most", func(h *api.Head) { h.L1, h.L1Len = 1024, 1<<20 }, true},
		{"above most", func(h *api.Head) { h.L1, h.L1Len = 1024, 1<<20+1 }, false},
		{"below 0", func(h *api.Head) { h.L1, h.L1Len = 1024, -1 }, false},
		{"below 0, without L1", func(h *api.Head) { h.L1Len = -1 }, false},
	})
}

// P8.1: places are multiples of the cluster above 0, at most MaxFile.
func TestCheckPlaces(t *testing.T) {
	for bits := 9; bits <= 16; bits++ {
		cluster := int64(1) << bits
		h := api.Head{
			Bits: bits, Size: 512, L1: cluster, L1Len: 1, Counts: cluster, CountsLen: 1,
			Snaps: 1, SnapsAt: cluster, SnapsLen: 1, Bitmaps: 1, BitmapsAt: cluster, BitmapsLen: 1,
		}
		for at, may := range map[int64]bool{
			cluster: true, 2 * cluster: true, 3 * cluster: true, api.MaxFile - cluster: true, api.MaxFile: true,
			0: false, -cluster: false, -1: false, 1: false, cluster / 2: false, cluster - 1: false, cluster + 1: false, cluster + cluster/2: false,
			api.MaxFile - 1: false, api.MaxFile + 1: false, api.MaxFile + cluster: false, 2 * api.MaxFile: false, math.MinInt64: false, math.MaxInt64 - cluster + 1: false,
		} {
			judged(t, h, []row{
				{"L1", func(h *api.Head) { h.L1 = at }, may},
				{"Counts", func(h *api.Head) { h.Counts = at }, may},
				{"SnapsAt", func(h *api.Head) { h.SnapsAt = at }, may},
				{"BitmapsAt", func(h *api.Head) { h.BitmapsAt = at }, may},
			})
		}
	}
}

// P8.1: of 0 snapshots there is neither a place nor a length; of others there are both. Likewise of bitmaps.
func TestCheckLists(t *testing.T) {
	for _, set := range []func(h *api.Head, many int, at int64, long int){
		func(h *api.Head, many int, at int64, long int) { h.Snaps, h.SnapsAt, h.SnapsLen = many, at, long },
		func(h *api.Head, many int, at int64, long int) { h.Bitmaps, h.BitmapsAt, h.BitmapsLen = many, at, long },
	} {
		for _, c := range []struct {
			many int
			at   int64
			long int
			may  bool
		}{
			{0, 0, 0, true}, {0, 512, 0, false}, {0, 0, 1, false}, {0, 512, 1, false}, {0, -512, 0, false}, {0, 0, -1, false}, {0, 1, 0, false},
			{1, 0, 0, false}, {1, 512, 0, false}, {1, 0, 1, false}, {1, 512, 1, true}, {1, 512, -1, false}, {1, 513, 1, false},
			{1, 512, 65535, true}, {1, 512, 65536, true}, {1, 512, 65537, false},
			{2, 512, 2, true}, {63, 512, 1, true}, {64, 512, 1, true}, {64, 0, 0, false}, {65, 512, 1, false}, {65, 0, 0, false},
			{-1, 512, 1, false}, {-1, 0, 0, false}, {math.MinInt, 0, 0, false}, {math.MaxInt, 512, 1, false},
		} {
			for _, h := range []api.Head{plain(), bent(plain(), func(h *api.Head) {
				h.Snaps, h.SnapsAt, h.SnapsLen, h.Bitmaps, h.BitmapsAt, h.BitmapsLen = 3, 1536, 99, 4, 2048, 98
			})} {
				judged(t, h, []row{{"list", func(h *api.Head) { set(h, c.many, c.at, c.long) }, c.may}})
			}
		}
	}
}

// P8.1: the backing's name has at most MaxName bytes, none of them 0; of which letters it is, is free.
func TestCheckBacking(t *testing.T) {
	for name, may := range map[string]bool{
		"": true, "a": true, "a/b c.img": true, "\xff\xfe\x01": true, "é": true, strings.Repeat("x", 63): true, strings.Repeat("x", 64): true, strings.Repeat("é", 32): true,
		strings.Repeat("x", 65): false, strings.Repeat("é", 33): false, strings.Repeat("x", 1<<20): false,
		"\x00": false, "\x00a": false, "a\x00": false, "a\x00b": false, strings.Repeat("x", 63) + "\x00": false, strings.Repeat("\x00", 64): false, strings.Repeat("x", 64) + "\x00": false,
	} {
		judged(t, plain(), []row{{"name", func(h *api.Head) { h.Backing = name }, may}})
		judged(t, full(), []row{{"name", func(h *api.Head) { h.Backing = name }, may}})
	}
}

// P8.1 to P8.3: heads that are drawn, with a field that may not be here and there, are as the words say.
func TestDrawn(t *testing.T) {
	r := rand.New(rand.NewSource(8))
	may := 0
	for range 4000 {
		h := drawn(r)
		held(t, h)
		if words(h) {
			may++
		}
	}
	if may < 2000 || may > 3950 {
		t.Fatal("too few of one kind", may)
	}
}
