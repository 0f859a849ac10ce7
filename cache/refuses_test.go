package cache

import (
	"math"
	"strings"
	"testing"

	"palimpsest/api"
	"palimpsest/store"
)

// P14.1: New of each Bits and Room about the bounds.
func TestNewBounds(t *testing.T) {
	s := filed(t)
	for _, bits := range []int{math.MinInt, -9, 0, 8, 9, 10, 15, 16, 17, 64, 73, math.MaxInt} {
		for _, room := range []int{math.MinInt, -1, 0, 1, 2, 1023, 1024, 1025, math.MaxInt} {
			should := api.OK
			if bits < 9 || bits > 16 || room < 1 || room > 1024 {
				should = api.ErrArg
			}
			c, no := New(s, "f", bits, room)
			if no != should || (c == nil) != (no != api.OK) {
				t.Errorf("New with %d, %d: %v", bits, room, no)
			}
			if no == api.OK {
				stands(t, c, "")
				counted(t, c, 0, 0, 0, 0)
			}
		}
	}
	if done, _ := s.Steps(); done != 10 {
		t.Error("New takes steps")
	}
}

// P14.1: New of no store, of a zero one, of what is no file's name, and which error is told first.
func TestNewRefuses(t *testing.T) {
	s := filed(t)
	long := strings.Repeat("n", 64)
	want(t, s.Create(long), api.OK)
	for i, x := range []struct {
		s          *store.Store
		name       string
		bits, room int
		no         api.Errno
	}{
		{nil, "f", 9, 1, api.ErrNil}, {&store.Store{}, "f", 9, 1, api.ErrNil}, {nil, "", 8, 0, api.ErrNil}, {&store.Store{}, "g", 17, 1, api.ErrNil}, {nil, "f", 9, 1025, api.ErrNil},
		{s, "g", 9, 1, api.ErrNone}, {s, "F", 16, 1024, api.ErrNone}, {s, "f ", 9, 1, api.ErrNone}, {s, long[1:], 9, 1, api.ErrNone},
		{s, "g", 8, 1, api.ErrArg}, {s, "g", 9, 0, api.ErrArg}, {s, "g", 17, 1025, api.ErrArg},
		{s, "", 9, 1, api.ErrArg}, {s, "f\x00", 9, 1, api.ErrArg}, {s, long + "n", 9, 1, api.ErrArg},
		{s, "f", 9, 1, api.OK}, {s, long, 9, 1, api.OK},
	} {
		c, no := New(x.s, x.name, x.bits, x.room)
		if no != x.no || (c == nil) != (no != api.OK) {
			t.Errorf("%d: %v %v, want %v", i, c, no, x.no)
		}
	}
}

// P14.1: two caches over two files of one store go on apart, and over one file each keeps its own pages.
func TestSeveralCaches(t *testing.T) {
	s, c := open(t, 9, 2)
	want(t, s.Create("g"), api.OK)
	g, _ := New(s, "g", 9, 2)
	o, _ := New(s, "f", 9, 2)
	done(t, c, "W0x R0")
	done(t, g, "W0y W1z A10")
	done(t, o, "R0")
	stands(t, c, "0dk")
	stands(t, g, "0dk 1dk<0")
	stands(t, o, "0k")
	done(t, c, "B0")
	done(t, g, "B1")
	stands(t, c, "0pk")
	stands(t, g, "0k 1pk")
	done(t, c, "F")
	stands(t, g, "0k 1pk")
	reads(t, o, 0, "A")
	reads(t, c, 0, "x")
	reads(t, g, 0, "y")
}

// every is the errors of all calls of a page that may be, with bytes that may be.
func every(c *Cache, page int64) map[string]api.Errno {
	all := map[string]api.Errno{"Write": c.Write(page, 0, []byte("a")), "Back": c.Back(page), "Drop": c.Drop(page), "After": c.After(page, 3), "After it": c.After(3, page)}
	_, all["Read"] = c.Read(page, 0, 1)
	_, all["State"] = c.State(page)
	return all
}

// P14.1 to P14.4: every call of a nil one and of a zero one, ahead of all other errors.
func TestNone(t *testing.T) {
	for _, c := range []*Cache{nil, {}} {
		for _, page := range []int64{-1, 0, top} {
			for call, no := range every(c, page) {
				if no != api.ErrNil {
					t.Errorf("%s: %v", call, no)
				}
			}
		}
		b, no := c.Read(0, -1, -1)
		if b != nil || no != api.ErrNil {
			t.Error(b, no)
		}
		if x, _ := c.State(0); x.Dirty || x.Pending || x.Waits != nil {
			t.Error(x)
		}
		want(t, c.Write(0, 0, nil), api.ErrNil)
		want(t, c.After(1, 1), api.ErrNil)
		want(t, c.Flush(), api.ErrNil)
		all := c.Pages()
		if all == nil || len(gathered(all)) > 0 {
			t.Error("pages of none")
		}
		if c.Counts() != (api.CacheCounts{}) {
			t.Error(c.Counts())
		}
	}
}

// P14.1 to P14.4: a page below 0, and one that is not below MaxFile, by every call, and of each Bits; nothing has changed.
func TestNoPage(t *testing.T) {
	for bits := 9; bits <= 16; bits++ {
		s, c := open(t, bits, 2)
		done(t, c, "W0 W1 A01 R0")
		first, no := c.Read(0, 0, 1)
		want(t, no, api.OK)
		was, counts := told(t, c), c.Counts()
		steps, _ := s.Steps()
		for _, page := range []int64{math.MinInt64, math.MinInt64 + 1, -top, -1, top >> bits, top>>bits + 1, top, 1 << 30, 1 << 32, 1 << 55, 1<<62 + 1, math.MaxInt64} {
			for call, no := range every(c, page) {
				if no != api.ErrArg {
					t.Errorf("%s of %d with Bits %d: %v", call, page, bits, no)
				}
			}
			want(t, c.After(page, page), api.ErrArg)
			want(t, c.Write(page, 0, nil), api.ErrArg)
			if b, no := c.Read(page, 0, 0); b != nil || no != api.ErrArg {
				t.Error(b, no)
			}
			if x, no := c.State(page); x.Dirty || x.Pending || x.Waits != nil || no != api.ErrArg {
				t.Error(x, no)
			}
		}
		stands(t, c, was)
		if now, _ := s.Steps(); now != steps || c.Counts() != counts || string(first) != "w" {
			t.Error("something has changed", c.Counts(), counts)
		}
	}
}

// P14.1 to P14.4: the first page and the last one below MaxFile, of each Bits.
func TestLastPage(t *testing.T) {
	for bits := 9; bits <= 16; bits++ {
		s, c := open(t, bits, 1)
		last := top>>bits - 1
		want(t, c.Write(last, 1<<bits-1, []byte("z")), api.OK)
		want(t, c.After(last, 0), api.OK)
		want(t, c.After(0, last), api.OK)
		if x, no := c.State(last); !x.Dirty || no != api.OK {
			t.Error(x, no)
		}
		want(t, c.Back(last), api.OK)
		want(t, c.Write(0, 0, []byte("a")), api.OK)
		want(t, c.Flush(), api.OK)
		if b, no := c.Read(last, 1<<bits-2, 2); string(b) != "\x00z" || no != api.OK {
			t.Error(b, no)
		}
		if size, _ := s.Size("f"); size != top {
			t.Error(size)
		}
		if b, _ := s.Read("f", top-2, 5); string(b) != "\x00z" {
			t.Error(b)
		}
		want(t, c.Drop(last), api.OK)
	}
}

// P14.1: a file that is gone is told by Read and Write, kept pages or not, behind ErrArg, and nothing is let go for it.
func TestFileGone(t *testing.T) {
	s, c := open(t, 9, 2)
	done(t, c, "W0 W1")
	want(t, s.Remove("f"), api.OK)
	counts := c.Counts()
	for page := range int64(4) {
		if b, no := c.Read(page, 0, 1); b != nil || no != api.ErrNone {
			t.Error(page, b, no)
		}
		want(t, c.Write(page, 0, []byte("a")), api.ErrNone)
		want(t, c.Write(page, 0, nil), api.ErrNone)
		want(t, c.Write(page, 512, []byte("a")), api.ErrArg)
		_, no := c.Read(page, -1, 1)
		want(t, no, api.ErrArg)
	}
	_, no := c.Read(-1, 0, 1)
	want(t, no, api.ErrArg)
	stands(t, c, "0dk 1dk")
	if c.Counts() != counts {
		t.Error(c.Counts())
	}
	// What takes no step is done, what takes one has the store's error.
	want(t, c.After(0, 1), api.OK)
	want(t, c.Back(0), api.ErrNone)
	want(t, c.Flush(), api.ErrNone)
	want(t, c.Back(3), api.ErrNone)
	stands(t, c, "0dk<1 1dk")
	want(t, c.Drop(1), api.OK)
	want(t, c.Drop(0), api.OK)
	want(t, c.Flush(), api.ErrNone)
	if c.Counts() != counts {
		t.Error(c.Counts())
	}
	stands(t, c, "")
}

// P14.1: behind a file of that name that comes again, kept pages are as they were, others are the new file's.
func TestFileAgain(t *testing.T) {
	s, c := open(t, 9, 3)
	done(t, c, "W0x R1")
	want(t, s.Remove("f"), api.OK)
	want(t, s.Create("f"), api.OK)
	reads(t, c, 0, "x")
	reads(t, c, 1, "B")
	reads(t, c, 2, "\x00")
	done(t, c, "F")
	if size, _ := s.Size("f"); size != 512 {
		t.Error(size)
	}
}
