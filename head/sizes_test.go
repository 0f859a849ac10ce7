package head

import (
	"testing"

	"palimpsest/api"
)

// P8.2: rows of sizes that are worked out by hand.
func TestSizes(t *testing.T) {
	for _, c := range []struct {
		bits                            int
		size                            int64
		cluster, entries, guest, tables int64
	}{
		{9, 0, 512, 64, 0, 0},
		{9, 512, 512, 64, 1, 1},
		{9, 1024, 512, 64, 2, 1},
		{9, 32768, 512, 64, 64, 1},
		{9, 33280, 512, 64, 65, 2},
		{9, api.MaxGuest - 512, 512, 64, 131071, 2048},
		{9, api.MaxGuest, 512, 64, 131072, 2048},
		{10, 0, 1024, 128, 0, 0},
		{10, 512, 1024, 128, 1, 1},
		{10, 1024, 1024, 128, 1, 1},
		{10, 1536, 1024, 128, 2, 1},
		{10, 131072, 1024, 128, 128, 1},
		{10, 131584, 1024, 128, 129, 2},
		{10, api.MaxGuest, 1024, 128, 65536, 512},
		{12, 4096, 4096, 512, 1, 1},
		{12, 4608, 4096, 512, 2, 1},
		{12, 2097152, 4096, 512, 512, 1},
		{12, 2097664, 4096, 512, 513, 2},
		{12, api.MaxGuest, 4096, 512, 16384, 32},
		{16, 0, 65536, 8192, 0, 0},
		{16, 512, 65536, 8192, 1, 1},
		{16, 65536, 65536, 8192, 1, 1},
		{16, 66048, 65536, 8192, 2, 1},
		{16, api.MaxGuest - 512, 65536, 8192, 1024, 1},
		{16, api.MaxGuest, 65536, 8192, 1024, 1},
	} {
		h := api.Head{Bits: c.bits, Size: c.size, L1: 65536, L1Len: 4096, Order: 3, Counts: 131072, CountsLen: 2}
		if Cluster(h) != c.cluster || Entries(h) != c.entries || Guest(h) != c.guest || Tables(h) != c.tables {
			t.Errorf("%d %d: %d %d %d %d", c.bits, c.size, Cluster(h), Entries(h), Guest(h), Tables(h))
		}
		held(t, h)
	}
}

// P8.2: they go by Bits and Size alone, not by how many entries the L1 table has beyond what is needed.
func TestSizesGoByBitsAndSize(t *testing.T) {
	for _, long := range []int{1, 2, 64, 1 << 20} {
		h := bent(plain(), func(h *api.Head) { h.L1Len = long })
		if Cluster(h) != 512 || Entries(h) != 64 || Guest(h) != 2 || Tables(h) != 1 {
			t.Errorf("%d: %d %d %d %d", long, Cluster(h), Entries(h), Guest(h), Tables(h))
		}
	}
}

// P8.2: of a head that may not be, for whatever reason, each of them is 0.
func TestSizesOfNone(t *testing.T) {
	for i, bend := range []func(*api.Head){
		func(h *api.Head) { *h = api.Head{} }, func(h *api.Head) { h.Bits = 8 }, func(h *api.Head) { h.Bits = 17 }, func(h *api.Head) { h.Bits = -1 }, func(h *api.Head) { h.Flags = 2 },
		func(h *api.Head) { h.Size = 1000 }, func(h *api.Head) { h.Size = -512 }, func(h *api.Head) { h.L1 = 0 }, func(h *api.Head) { h.L1Len = 0 }, func(h *api.Head) { h.Order = 7 },
		func(h *api.Head) { h.Counts = 0 }, func(h *api.Head) { h.CountsLen = 0 }, func(h *api.Head) { h.Snaps = 1 }, func(h *api.Head) { h.SnapsAt = 512 }, func(h *api.Head) { h.SnapsLen = 1 },
		func(h *api.Head) { h.Bitmaps = 1 }, func(h *api.Head) { h.BitmapsAt = 512 }, func(h *api.Head) { h.BitmapsLen = 1 }, func(h *api.Head) { h.Backing = "\x00" },
	} {
		h := bent(plain(), bend)
		if Cluster(h) != 0 || Entries(h) != 0 || Guest(h) != 0 || Tables(h) != 0 {
			t.Errorf("%d: %d %d %d %d", i, Cluster(h), Entries(h), Guest(h), Tables(h))
		}
	}
}
