package regions

import (
	"math"
	"testing"

	"palimpsest/api"
)

// firstRow is a call of First, and what it must tell.
type firstRow struct {
	from, n, step, at int64
	no                api.Errno
}

func (x firstRow) held(t *testing.T, r *Regions) {
	t.Helper()
	if at, no := r.First(x.from, x.n, x.step); at != x.at || no != x.no {
		t.Errorf("First(%d, %d, %d): %d %v, want %d %v", x.from, x.n, x.step, at, no, x.at, x.no)
	}
}

// P12.3: the rows of the chapter's examples, and others about them.
func TestFirstRows(t *testing.T) {
	r := made(t, region(1, 0, 512), region(2, 1024, 512), region(3, 512, 512))
	for _, x := range []firstRow{
		{0, 100, 512, 1536, api.OK}, {0, 100, 1, 1536, api.OK}, {2000, 1, 1000, 2000, api.OK}, {2001, 1, 1000, 3000, api.OK}, {1999, 1, 1000, 2000, api.OK},
		{0, 1, 1000, 2000, api.OK}, {0, 1, 1024, 2048, api.OK}, {1537, 1, 512, 2048, api.OK}, {1535, 1, 1, 1536, api.OK}, {1536, 1, 1, 1536, api.OK},
	} {
		x.held(t, r)
	}
}

// P12.3: gaps of 10, 20 and 30 bytes, which n just fits, and by one more does not; from at, within and behind regions.
func TestFirstInGaps(t *testing.T) {
	r := made(t, region(1, 10, 10), region(2, 40, 10), region(3, 80, 20))
	for _, x := range []firstRow{
		{0, 10, 1, 0, api.OK}, {0, 11, 1, 20, api.OK}, {0, 20, 1, 20, api.OK}, {0, 21, 1, 50, api.OK}, {0, 30, 1, 50, api.OK}, {0, 31, 1, 100, api.OK},
		{1, 9, 1, 1, api.OK}, {1, 10, 1, 20, api.OK}, {9, 1, 1, 9, api.OK}, {9, 2, 1, 20, api.OK}, {10, 1, 1, 20, api.OK}, {15, 1, 1, 20, api.OK}, {19, 1, 1, 20, api.OK}, {20, 20, 1, 20, api.OK}, {21, 20, 1, 50, api.OK}, {21, 19, 1, 21, api.OK},
		{80, 1, 1, 100, api.OK}, {99, 1, 1, 100, api.OK}, {100, 1, 1, 100, api.OK}, {101, 1, 1, 101, api.OK},
		{0, 5, 7, 0, api.OK}, {1, 5, 7, 21, api.OK}, {22, 5, 7, 28, api.OK}, {0, 11, 7, 21, api.OK}, {0, 19, 7, 21, api.OK}, {0, 20, 7, 56, api.OK}, {0, 24, 7, 56, api.OK}, {0, 25, 7, 105, api.OK},
		{1, 1, 30, 30, api.OK}, {0, 11, 30, 60, api.OK}, {0, 20, 30, 60, api.OK}, {0, 21, 30, 120, api.OK}, {0, 11, 64, 64, api.OK}, {0, 16, 64, 64, api.OK}, {0, 17, 64, 128, api.OK}, {0, 10, 64, 0, api.OK}, {1, 10, 64, 64, api.OK},
		{1, 1, 45, 135, api.OK}, {1, 1, 15, 30, api.OK},
	} {
		x.held(t, r)
	}
}

// P12.3: regions that touch leave nothing between them.
func TestFirstBehindThoseThatTouch(t *testing.T) {
	r := made(t, region(1, 0, 512), region(2, 512, 1), region(3, 513, 511), region(4, 1536, 512))
	for _, x := range []firstRow{
		{0, 1, 1, 1024, api.OK}, {0, 512, 1, 1024, api.OK}, {0, 513, 1, 2048, api.OK}, {0, 1, 512, 1024, api.OK}, {0, 513, 512, 2048, api.OK}, {0, 1, 513, 1026, api.OK}, {0, 511, 513, 2052, api.OK},
	} {
		x.held(t, r)
	}
}

// P12.3: at MaxPlace and beyond it; steps and lengths that are huge.
func TestFirstAtTheEnd(t *testing.T) {
	for _, x := range []firstRow{
		{0, top, 1, 0, api.OK}, {0, top + 1, 1, 0, api.ErrRange}, {1, top, 1, 0, api.ErrRange}, {1, top - 1, 1, 1, api.OK}, {top - 1, 1, 1, top - 1, api.OK}, {top - 1, 2, 1, 0, api.ErrRange}, {top, 1, 1, 0, api.ErrRange},
		{0, 1, top, 0, api.OK}, {1, 1, top, 0, api.ErrRange}, {top, 1, top, 0, api.ErrRange}, {0, 1, top - 1, 0, api.OK}, {1, 1, top - 1, top - 1, api.OK}, {1, 2, top - 1, 0, api.ErrRange}, {top - 1, 1, top - 1, top - 1, api.OK}, {top, 1, top - 1, 0, api.ErrRange},
		{0, 1, math.MaxInt64, 0, api.OK}, {1, 1, math.MaxInt64, 0, api.ErrRange}, {top, 1, math.MaxInt64, 0, api.ErrRange}, {0, math.MaxInt64, math.MaxInt64, 0, api.ErrRange}, {top, math.MaxInt64, math.MaxInt64, 0, api.ErrRange}, {1, math.MaxInt64, 1, 0, api.ErrRange}, {1, math.MaxInt64, 1 << 62, 0, api.ErrRange}, {1, 1, 1 << 62, 0, api.ErrRange},
		{1, 1, top / 2, top / 2, api.OK}, {1, top / 2, top / 2, top / 2, api.OK}, {1, top/2 + 1, top / 2, 0, api.ErrRange}, {top/2 + 1, 1, top / 2, 0, api.ErrRange},
	} {
		x.held(t, New())
	}
	r := made(t, region(1, 0, 512), region(2, top-1024, 512))
	for _, x := range []firstRow{
		{0, top - 1536, 1, 512, api.OK}, {0, top - 1535, 1, 0, api.ErrRange}, {513, top - 1536, 1, 0, api.ErrRange}, {top - 1024, 512, 512, top - 512, api.OK}, {top - 1024, 513, 1, 0, api.ErrRange}, {top - 600, 1, 1, top - 512, api.OK}, {top - 511, 512, 1, 0, api.ErrRange}, {top - 511, 511, 1, top - 511, api.OK}, {top - 511, 1, 512, 0, api.ErrRange},
		{0, 1, math.MaxInt64, 0, api.ErrRange}, {0, 1, top, 0, api.ErrRange}, {0, 1, top - 512, top - 512, api.OK}, {0, 1, top - 513, 0, api.ErrRange}, {0, math.MaxInt64, 1, 0, api.ErrRange},
	} {
		x.held(t, r)
	}
	for _, x := range []firstRow{{0, 1, 1, 0, api.ErrRange}, {top, 1, 1, 0, api.ErrRange}, {top - 1, 1, 1, 0, api.ErrRange}, {5, math.MaxInt64, math.MaxInt64, 0, api.ErrRange}} {
		x.held(t, made(t, region(1, 0, top)))
	}
}

// P12.3: what may not be is told ahead of there being no such place.
func TestFirstOfWhatMayNotBe(t *testing.T) {
	for _, r := range []*Regions{New(), made(t, region(1, 0, top)), made(t, region(1, 5, 5))} {
		for _, from := range odd() {
			for _, n := range odd() {
				for _, step := range odd() {
					at, no := r.First(from, n, step)
					if (no == api.ErrArg) != (from < 0 || from > top || n < 1 || step < 1) {
						t.Errorf("First(%d, %d, %d): %v", from, n, step, no)
					}
					if no != api.OK && at != 0 {
						t.Errorf("First(%d, %d, %d): %d beside %v", from, n, step, at, no)
					}
				}
			}
		}
	}
}

// P12.3: edges of all numbers, about regions at either end, against the row of bytes.
func TestFirstAtAllEdges(t *testing.T) {
	for _, from := range []int64{0, top - 2048} {
		p, r := newPlain(from, 2048), New()
		p.heldPut(t, r, region(1, from+512, 512), region(2, from+1024, 1), region(3, from+1536, 511))
		for _, at := range append(odd(), from+511, from+512, from+1023, from+1024, from+1025, from+1535, from+1536, from+2046, from+2047) {
			for _, n := range odd() {
				for _, step := range append(odd(), 3, 1024, 1000) {
					p.heldFirst(t, r, at, n, step)
				}
			}
		}
		p.tells(t, r)
	}
}

// P12.3: many regions are gone through once, also where a step goes over many of them at a time.
func TestFirstOfMany(t *testing.T) {
	r := made(t, bytewise(65536)...)
	for _, x := range []firstRow{
		{0, 1, 1, 1, api.OK}, {0, 1, 2, 131072, api.OK}, {0, 2, 1, 131071, api.OK}, {0, 1, 3, 3, api.OK}, {0, 2, 5, 131075, api.OK}, {1000, 1, 2, 131072, api.OK}, {131070, 1, 1, 131071, api.OK}, {0, 1, 1000, 132000, api.OK}, {0, 2, 65536, 131072, api.OK}, {0, 1, 65535, 65535, api.OK},
	} {
		x.held(t, r)
	}
}
