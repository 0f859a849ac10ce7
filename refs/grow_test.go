package refs

import (
	"math"
	"testing"

	"palimpsest/api"
)

// P16.3: how many bytes the file has then.
func TestGrow(t *testing.T) {
	t.Parallel()
	for bits := 9; bits <= 16; bits++ {
		c := int64(1) << bits
		for _, tail := range []int64{0, 1, c - 1} {
			has := 3*c + tail
			up := (has + c - 1) / c * c
			for _, row := range []struct{ size, then int64 }{
				{0, has}, {1, has}, {-1, has}, {-c, has}, {math.MinInt64, has}, // it has so many
				{2 * c, has}, {2*c + 1, has}, {3*c - 1, has}, {3 * c, has},
				{has, up}, {has + 1, (has + c) / c * c}, {3*c + 1, 4 * c}, {4 * c, 4 * c}, {4*c + 1, 5 * c}, {9*c - 1, 9 * c},
				{api.MaxFile - c + 1, api.MaxFile}, {api.MaxFile - 1, api.MaxFile}, {api.MaxFile, api.MaxFile},
			} {
				p := right(t, bits, 4, 1)
				p.b = append(p.b, make([]byte, tail)...)
				s, r := p.opened(t)
				want(t, r.Grow(row.size), api.OK)
				if size, _ := s.Size(file); size != row.then {
					t.Fatalf("Bits %d, %d bytes, Grow(%d): %d, want %d", bits, has, row.size, size, row.then)
				}
				if row.then == has {
					if n, _ := s.Steps(); n != 3 {
						t.Error("a step for nothing")
					}
				}
				if size, _ := lasting(t, s).Size(file); size != row.then {
					t.Error("it does not last")
				}
				counted(t, r, 2, 1)
				b, no := s.Read(file, 0, int(has))
				want(t, no, api.OK)
				if string(b) != string(p.b) {
					t.Error("bytes have changed")
				}
				b, no = s.Read(file, has, 2*int(c))
				want(t, no, api.OK)
				for _, x := range b {
					if x != 0 {
						t.Fatal("no noughts behind it")
					}
				}
			}
		}
		s, r := right(t, bits, 4, 1).opened(t)
		unchanged(t, s, func() {
			for _, size := range []int64{api.MaxFile + 1, api.MaxFile + c, 1 << 40, math.MaxInt64 - c, math.MaxInt64 - 1, math.MaxInt64} {
				want(t, r.Grow(size), api.ErrFull)
			}
		})
	}
}

// P16.3, P16.4: Grow's only step fails: nothing has changed.
func TestGrowFails(t *testing.T) {
	s, r := right(t, 9, 4, 1).opened(t)
	for fate, no := range map[api.FateKind]api.Errno{api.FateFail: api.ErrDisk, api.FateFull: api.ErrFull} {
		was := s.Copy()
		want(t, s.Feed(api.Fate{Kind: fate, Keep: 9}), api.OK)
		want(t, r.Grow(0), api.OK) // no step is needed for it
		want(t, r.Grow(3*512), api.OK)
		want(t, r.Grow(3*512+1), no)
		if !s.Same(was) {
			t.Error("it has changed")
		}
	}
	want(t, r.Grow(3*512+1), api.OK)
	if size, _ := s.Size(file); size != 4*512 {
		t.Error(size)
	}
}
