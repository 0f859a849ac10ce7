package cache

import (
	"fmt"
	"slices"
	"strings"
	"testing"

	"palimpsest/api"
)

// P14.1: which page is let go when one more is brought in: how pages stand behind the script, and which steps its last word took.
func TestLetGo(t *testing.T) {
	for _, x := range []struct {
		room              int
		script, is, steps string
	}{
		// There is room.
		{3, "R0 R1 R2", "0k 1k 2k", ""},
		{3, "W0 W1 R2", "0dk 1dk 2k", ""},
		// None is dirty.
		{2, "R0 R1 R2", "1k 2k", ""},
		{2, "R1 R0 R2", "0k 2k", ""},
		{3, "R2 R1 R0 R3", "0k 1k 3k", ""},
		{3, "R2 R1 R0 R3 R4", "0k 3k 4k", ""},
		// Used again since, by Read and by Write.
		{2, "R0 R1 R0 R2", "0k 2k", ""},
		{2, "R0 R1 N0 R2", "0k 2k", ""},
		{3, "R0 R1 R2 R0 R1 R3", "0k 1k 3k", ""},
		{3, "R0 R1 R2 R1 R0 R2 R3 R4", "2k 3k 4k", ""},
		// Nothing else is use.
		{2, "W0 W1 F B0 R2", "1k 2k", ""},
		{2, "R0 R1 W1 A01 B0 R2", "0<1 1dk 2k", ""},
		// Some are dirty.
		{2, "W0 R1 R2", "0dk 2k", ""},
		{2, "R0 W1 R2", "1dk 2k", ""},
		{2, "W0 R1 R2 R3", "0dk 3k", ""},
		{3, "W0 R1 R2 R1 R3", "0dk 1k 3k", ""},
		{3, "W0 W1 R2 R3", "0dk 1dk 3k", ""},
		{3, "R0 W0 W1 R2 R0 R1 R3", "0dk 1dk 3k", ""},
		// All are.
		{2, "W0 W1 R2", "0p 1dk 2k", "0"},
		{2, "W1 W0 R2", "0dk 1p 2k", "1"},
		{2, "W0 W1 R0 R2", "0dk 1p 2k", "1"},
		{2, "W0 W1 N0 W2", "0dk 1p 2dk", "1"},
		{3, "W2 W0 W1 R3", "0dk 1dk 2p 3k", "2"},
		{2, "W0 W1 W2 W3", "0p 1p 2dk 3dk", "1"},
		// Dirty no more, and dirty again.
		{2, "W0 W1 B1 R2", "0dk 1p 2k", ""},
		{2, "W0 W1 B0 R2", "0p 1dk 2k", ""},
		{2, "W0 W1 B0 B1 R2", "0p 1pk 2k", ""},
		{2, "W0 W1 B1 W1 R2", "0p 1dpk 2k", "0"},
		{2, "W0 W1 F R2", "1k 2k", ""},
		// Who is written back for being let go waits for others, which stay; those that are not dirty are let go ahead of it.
		{2, "W0 W1 A01 R2", "0p 1k 2k", "1 f 0"},
		{3, "W0 W1 W2 A01 A02 R3", "0p 1k 2k 3k", "1 2 f 0"},
		{3, "W0 W1 W2 A01 A12 R3", "0p 1k 2k 3k", "2 f 1 f 0"},
		{3, "W0 W1 W2 A10 A20 R3", "0p 1dk<0 2dk<0 3k", "0"},
		{3, "W0 W1 R2 A01 R3", "0dk<1 1dk 3k", ""},
		// Room for one.
		{1, "R0 R1", "1k", ""},
		{1, "W0 R1", "0p 1k", "0"},
		{1, "W0 W1 W0", "0dpk 1p", "1"},
		{1, "W0 W1 A10 W2", "1p 2dk", "f 1"},
		{1, "W0 R0 N0 R0", "0dk", ""},
		{1, "W0 D0 R1", "1k", ""},
	} {
		_, c := open(t, 9, x.room)
		done(t, c, x.script)
		if have := told(t, c); have != x.is {
			t.Errorf("room %d, %s: %q, want %q", x.room, x.script, have, x.is)
		}
		if have := stepped(t, 9, x.room, x.script); have != x.steps {
			t.Errorf("room %d, %s: steps %q, want %q", x.room, x.script, have, x.steps)
		}
	}
}

// P14.1: at most Room pages are kept, and the ones used last, at each Room about its bounds.
func TestRoom(t *testing.T) {
	for _, room := range []int{1, 2, 3, 7, 8, 1023, 1024} {
		_, c := open(t, 9, room)
		for page := range int64(2 * room) {
			want(t, c.Write(page, 0, []byte{byte(page)}), api.OK)
			kept := gathered(c.Pages())
			first := max(0, page-int64(room)+1)
			if int64(len(kept)) != page-first+1 || kept[0] != first || kept[len(kept)-1] != page {
				t.Fatalf("room %d: %d are kept behind page %d", room, len(kept), page)
			}
		}
		counted(t, c, 0, 2*room, room, 0)
		for page := range int64(2 * room) {
			reads(t, c, page, string([]byte{byte(page)}))
		}
	}
}

// P14.1: whoever was used longest ago is let go, in whatever order many were used.
func TestLongestAgo(t *testing.T) {
	const room = 64
	for _, step := range []int64{1, 3, 7, 31, 63} {
		_, c := open(t, 9, room)
		var used []int64
		use := func(page int64) {
			if i := slices.Index(used, page); i >= 0 {
				used = slices.Delete(used, i, i+1)
			}
			used = append(used, page)
			if page%3 == 0 {
				want(t, c.Write(page, 0, nil), api.OK)
				return
			}
			reads(t, c, page, "")
		}
		for i := range int64(3 * room) {
			use(i * step % room)
		}
		for i := range int64(3 * room) {
			use(1000 + i*step%(2*room))
			if len(used) > room {
				used = used[1:]
			}
			should := slices.Sorted(slices.Values(used))
			if have := gathered(c.Pages()); !slices.Equal(have, should) {
				t.Fatalf("step %d: %v are kept, want %v", step, have, should)
			}
		}
	}
}

// P14.1: where writing back fails, nothing is brought in, and nobody is let go.
func TestLetGoFails(t *testing.T) {
	for _, kind := range []api.FateKind{api.FateFail, api.FateFull} {
		for _, call := range []string{"R2", "W2", "N2"} {
			s, c := open(t, 9, 2)
			done(t, c, "W0x W1y")
			want(t, s.Feed(fails(0, kind, 0)...), api.OK)
			want(t, do(c, call), map[api.FateKind]api.Errno{api.FateFail: api.ErrDisk, api.FateFull: api.ErrFull}[kind])
			stands(t, c, "0dk 1dk")
			counted(t, c, 0, 2, 0, 0)
			if b, _ := s.Read("f", 0, 1); string(b) != "A" {
				t.Errorf("%q", b)
			}
			reads(t, c, 1, "y")
			reads(t, c, 0, "x")
			done(t, c, call)
			if !strings.Contains(told(t, c), "1p 2") {
				t.Error(told(t, c))
			}
			reads(t, c, 0, "x")
		}
	}
}

// P14.1: what was written for one that could not be let go stays written, and is let go next.
func TestLetGoFailsLate(t *testing.T) {
	for k, is := range []string{"0dk<1 1dk", "0dk<1 1pk", "0dk 1k"} {
		s, c := open(t, 9, 2)
		done(t, c, "W0x W1y A01")
		want(t, s.Feed(fails(k, api.FateFail, 0)...), api.OK)
		want(t, do(c, "R2"), api.ErrDisk)
		stands(t, c, is)
		counted(t, c, 0, 2, min(k, 1), k/2)
		done(t, c, "R2")
		should := []string{"0p 1k 2k", "0dk<1 1p 2k", "0dk 2k"}[k]
		stands(t, c, should)
		reads(t, c, 0, "x")
		reads(t, c, 1, "y")
	}
}

// P14.5: what is read is what was last written, whatever was let go; it is told of pages of many, in little room.
func TestReadIsWhatWasWritten(t *testing.T) {
	for _, room := range []int{1, 2, 5} {
		s, c := open(t, 10, room)
		is := map[int64]string{}
		for i := range 400 {
			page, at := int64(i*7%13), i*5%900
			text := fmt.Sprint("text ", i)
			whole, no := c.Read(page, 0, 1024)
			want(t, no, api.OK)
			if was, there := is[page]; there && was != string(whole) {
				t.Fatalf("room %d: page %d has changed", room, page)
			}
			want(t, c.Write(page, at, []byte(text)), api.OK)
			is[page] = string(whole[:at]) + text + string(whole[at+len(text):])
			if i%11 == 0 {
				want(t, c.After(page, int64(i*3%13)), map[bool]api.Errno{true: api.OK, false: api.ErrLoop}[page != int64(i*3%13) && !waits(c, int64(i*3%13), page)])
			}
			if i%50 == 49 {
				flushed(t, s, c, is)
			}
		}
		flushed(t, s, c, is)
	}
}

// waits tells whether one page waits for another one, by what State tells.
func waits(c *Cache, page, other int64) bool {
	x, _ := c.State(page)
	return slices.ContainsFunc(x.Waits, func(w int64) bool { return w == other || waits(c, w, other) })
}

// flushed flushes, and holds the file against what was written.
func flushed(t *testing.T, s interface {
	Read(string, int64, int) ([]byte, api.Errno)
	Pending() int
}, c *Cache, is map[int64]string) {
	t.Helper()
	want(t, c.Flush(), api.OK)
	if s.Pending() != 0 {
		t.Fatal("something is pending in the store")
	}
	for page, text := range is {
		if b, no := s.Read("f", page*1024, 1024); no != api.OK || string(b) != text {
			t.Fatalf("page %d of the file is not as it was written", page)
		}
	}
}
