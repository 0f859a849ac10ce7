package head

import (
	"encoding/binary"
	"math"
	"math/rand"
	"strings"
	"testing"

	"palimpsest/api"
)

// plain is a head that may be, as the chapter's examples have it.
func plain() api.Head {
	return api.Head{Bits: 9, Size: 1024, L1: 1024, L1Len: 1, Order: 4, Counts: 512, CountsLen: 1}
}

// full is a head that may be whose fields all differ, and none of which is nought.
func full() api.Head {
	return api.Head{
		Bits: 11, Flags: 1, Size: 0x203a00, L1: 0x1000800, L1Len: 0xa0b0c, Order: 5, Counts: 0x8765000, CountsLen: 0x4321,
		Snaps: 17, SnapsAt: 0x0fedc000, SnapsLen: 0x2345, Bitmaps: 33, BitmapsAt: 0x00ab7800, BitmapsLen: 0x6789, Backing: "lower.img",
	}
}

// bent is a head with something changed.
func bent(h api.Head, bend func(*api.Head)) api.Head {
	bend(&h)
	return h
}

// within tells whether x is from least to most.
func within(x, least, most int64) bool { return least <= x && x <= most }

// place tells whether the words allow x as a place of whole clusters.
func place(x, cluster int64) bool { return x%cluster == 0 && x > 0 && x <= 268435456 }

// needs is how many guest clusters and L1 entries a size needs, counted up one by one.
func needs(bits int, size int64) (clusters, tables int64) {
	cluster := int64(math.Pow(2, float64(bits)))
	for clusters*cluster < size {
		clusters++
	}
	for tables*(cluster/8) < clusters {
		tables++
	}
	return clusters, tables
}

// words tells whether a head may be, as the chapter's section 'Words' says it, sentence by sentence.
func words(h api.Head) bool {
	if h.Bits < 9 || h.Bits > 16 || h.Flags > 1 {
		return false
	}
	cluster := int64(1) << uint(h.Bits)
	if !within(h.Size, 0, 67108864) || h.Size%512 != 0 {
		return false
	}
	if _, tables := needs(h.Bits, h.Size); !within(int64(h.L1Len), tables, 1048576) {
		return false
	}
	if h.L1Len == 0 && h.L1 != 0 || h.L1Len != 0 && !place(h.L1, cluster) {
		return false
	}
	if !within(int64(h.Order), 0, 6) || !place(h.Counts, cluster) || !within(int64(h.CountsLen), 1, 65536) {
		return false
	}
	list := func(many int, at int64, long int) bool {
		if many == 0 {
			return at == 0 && long == 0
		}
		return within(int64(many), 1, 64) && place(at, cluster) && within(int64(long), 1, 65536)
	}
	if !list(h.Snaps, h.SnapsAt, h.SnapsLen) || !list(h.Bitmaps, h.BitmapsAt, h.BitmapsLen) {
		return false
	}
	return len(h.Backing) <= 64 && !strings.Contains(h.Backing, "\x00")
}

// laid is the sector that 'The format' says, of any head whose numbers fit their fields.
func laid(h api.Head) []byte {
	b := make([]byte, 512)
	copy(b, "PAL1")
	le := binary.LittleEndian
	le.PutUint32(b[4:], uint32(h.Bits))
	le.PutUint64(b[8:], h.Flags)
	le.PutUint64(b[16:], uint64(h.Size))
	le.PutUint64(b[24:], uint64(h.L1))
	le.PutUint32(b[32:], uint32(h.L1Len))
	le.PutUint32(b[36:], uint32(h.Order))
	le.PutUint64(b[40:], uint64(h.Counts))
	le.PutUint32(b[48:], uint32(h.CountsLen))
	le.PutUint32(b[52:], uint32(h.Snaps))
	le.PutUint64(b[56:], uint64(h.SnapsAt))
	le.PutUint32(b[64:], uint32(h.SnapsLen))
	le.PutUint32(b[68:], uint32(h.Bitmaps))
	le.PutUint64(b[72:], uint64(h.BitmapsAt))
	le.PutUint32(b[80:], uint32(h.BitmapsLen))
	le.PutUint32(b[84:], uint32(len(h.Backing)))
	copy(b[88:152], h.Backing)
	return b
}

// said is the head that a sector says, byte by byte, and whether the words allow it.
func said(b []byte) (api.Head, bool) {
	if len(b) < 512 || string(b[:4]) != "PAL1" {
		return api.Head{}, false
	}
	le := binary.LittleEndian
	four := func(at int) int { return int(le.Uint32(b[at:])) }
	eight := func(at int) int64 { return int64(le.Uint64(b[at:])) }
	h := api.Head{
		Bits: four(4), Flags: le.Uint64(b[8:]), Size: eight(16), L1: eight(24), L1Len: four(32), Order: four(36), Counts: eight(40), CountsLen: four(48),
		Snaps: four(52), SnapsAt: eight(56), SnapsLen: four(64), Bitmaps: four(68), BitmapsAt: eight(72), BitmapsLen: four(80),
	}
	long := four(84)
	if long > 64 {
		return api.Head{}, false
	}
	h.Backing = string(b[88 : 88+long])
	for _, x := range b[88+long : 512] {
		if x != 0 {
			return api.Head{}, false
		}
	}
	if !words(h) {
		return api.Head{}, false
	}
	return h, true
}

// held holds all calls of a head against the words.
func held(t *testing.T, h api.Head) {
	t.Helper()
	b, wrong := Bytes(h)
	if !words(h) {
		if e := Check(h); e != api.ErrArg {
			t.Fatalf("Check of %+v: %v", h, e)
		}
		if b != nil || wrong != api.ErrArg {
			t.Fatalf("Bytes of %+v: %v %v", h, b, wrong)
		}
		if Cluster(h) != 0 || Entries(h) != 0 || Guest(h) != 0 || Tables(h) != 0 {
			t.Fatalf("of %+v: %d %d %d %d", h, Cluster(h), Entries(h), Guest(h), Tables(h))
		}
		return
	}
	if e := Check(h); e != api.OK {
		t.Fatalf("Check of %+v: %v", h, e)
	}
	if string(b) != string(laid(h)) || wrong != api.OK {
		t.Fatalf("Bytes of %+v: %v %v", h, b, wrong)
	}
	if back, e := Read(b); back != h || e != api.OK {
		t.Fatalf("Read of Bytes of %+v: %+v %v", h, back, e)
	}
	clusters, tables := needs(h.Bits, h.Size)
	cluster := int64(math.Pow(2, float64(h.Bits)))
	if Cluster(h) != cluster || Entries(h) != cluster/8 || Guest(h) != clusters || Tables(h) != tables {
		t.Fatalf("of %+v: %d %d %d %d, want %d %d %d %d", h, Cluster(h), Entries(h), Guest(h), Tables(h), cluster, cluster/8, clusters, tables)
	}
}

// drawn is a head whose fields mostly may be, each one.
func drawn(r *rand.Rand) api.Head {
	seldom := func() bool { return r.Intn(12) == 0 }
	pick := func(l ...int64) int64 { return l[r.Intn(len(l))] }
	h := api.Head{Bits: 9 + r.Intn(8), Flags: uint64(r.Intn(2)), Order: r.Intn(7)}
	cluster := int64(1) << h.Bits
	spot := func() int64 { return pick(1, 1+r.Int63n(268435456/cluster), 268435456/cluster) * cluster }
	h.Size = pick(0, 512, 512*r.Int63n(131073), cluster*r.Int63n(67108864/cluster), 67108864)
	_, tables := needs(h.Bits, h.Size)
	h.L1Len = int(pick(tables, tables+1, 1048576))
	if h.L1Len > 0 {
		h.L1 = spot()
	}
	h.Counts, h.CountsLen = spot(), int(pick(1, 2, 1+r.Int63n(65536), 65536))
	if r.Intn(2) == 0 {
		h.Snaps, h.SnapsAt, h.SnapsLen = 1+r.Intn(64), spot(), int(pick(1, 1+r.Int63n(65536), 65536))
	}
	if r.Intn(2) == 0 {
		h.Bitmaps, h.BitmapsAt, h.BitmapsLen = 1+r.Intn(64), spot(), int(pick(1, 1+r.Int63n(65536), 65536))
	}
	h.Backing = strings.Repeat(string(rune('a'+r.Intn(26))), int(pick(0, 0, 1, 8, 63, 64)))
	if seldom() {
		odd := pick(-1, 0, 1, 7, 511, 513, cluster/2, cluster, cluster+1, 65537, 1048577, 268435457, math.MaxInt64, math.MinInt64)
		[]func(){
			func() { h.Bits = int(odd) }, func() { h.Flags = uint64(odd) }, func() { h.Size = odd }, func() { h.L1 = odd }, func() { h.L1Len = int(odd) },
			func() { h.Order = int(odd) }, func() { h.Counts = odd }, func() { h.CountsLen = int(odd) },
			func() { h.Snaps = int(odd) }, func() { h.SnapsAt = odd }, func() { h.SnapsLen = int(odd) },
			func() { h.Bitmaps = int(odd) }, func() { h.BitmapsAt = odd }, func() { h.BitmapsLen = int(odd) },
			func() { h.Backing = strings.Repeat("x", 65) }, func() { h.Backing = "x\x00" },
		}[r.Intn(16)]()
	}
	return h
}
