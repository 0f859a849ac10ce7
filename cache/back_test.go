package cache

import (
	"strings"
	"testing"

	"palimpsest/api"
)

// P14.3: how pages stand behind a Back or a Flush, and which steps it took.
func TestBackAndFlush(t *testing.T) {
	for _, x := range []struct{ script, is, steps string }{
		// Not dirty, dirty, pending, both.
		{"R0 B0", "0k", ""},
		{"N0 B0", "0k", ""},
		{"W0 B0", "0pk", "0"},
		{"W0 B0 B0", "0pk", ""},
		{"W0 B0 W0 B0", "0pk", "0"},
		{"W0 F B0", "0k", ""},
		{"W0 F W0 B0", "0pk", "0"},
		// Not dirty, though it waits: nothing is done.
		{"R0 W1 A01 B0", "0k<1 1dk", ""},
		// It waits for one: dirty, pending, both, pending no more, dropped.
		{"W0 W1 A01 B0", "0pk 1k", "1 f 0"},
		{"W0 W1 B1 A01 B0", "0pk 1k", "f 0"},
		{"W0 W1 A01 B1 B0", "0pk 1k", "f 0"},
		{"W0 W1 B1 W1 A01 B0", "0pk 1k", "1 f 0"},
		{"W0 W1 A01 B1 W1 B0", "0pk 1k", "1 f 0"},
		{"W0 W1 A01 F W0 B0", "0pk 1k", "0"},
		{"W0 W1 A01 F W0 W1 B0", "0pk 1dk", "0"},
		{"W0 W1 A01 D1 B0", "0pk", "0"},
		{"W0 W1 A01 B1 D1 B0", "0pk", "f 0"},
		{"W0 W1 A01 B1 W1 D1 B0", "0pk", "f 0"},
		// Whoever is written ahead of it is not flushed if it is not waited for.
		{"W0 W1 B1 B0", "0pk 1pk", "0"},
		{"W0 W1 A01 B1", "0dk<1 1pk", "1"},
		// It waits for several, rising, however they came.
		{"W0 W1 W2 W3 A03 A01 A02 B0", "0pk 1k 2k 3k", "1 2 3 f 0"},
		{"W3 W2 W1 W0 A32 A31 A30 B3", "0k 1k 2k 3pk", "0 1 2 f 3"},
		{"W0 W1 W2 B2 A01 A02 B0", "0pk 1k 2k", "1 f 0"},
		{"W0 W1 W2 B1 B2 A01 A02 B0", "0pk 1k 2k", "f 0"},
		// For one that waits itself.
		{"W0 W1 W2 A01 A12 B0", "0pk 1k 2k", "2 f 1 f 0"},
		{"W0 W1 W2 A01 A12 B1", "0dk<1 1pk 2k", "2 f 1"},
		{"W0 W1 W2 W3 A01 A12 A23 B0", "0pk 1k 2k 3k", "3 f 2 f 1 f 0"},
		{"W0 W1 W2 A01 A02 A12 B0", "0pk 1k 2k", "2 f 1 f 0"},
		{"W0 W1 W2 A01 A02 A21 B0", "0pk 1k 2k", "1 f 2 f 0"},
		{"W0 W1 W2 W3 A01 A02 A13 A23 B0", "0pk 1k 2k 3k", "3 f 1 2 f 0"},
		{"W0 W1 W2 W3 A01 A02 A23 B0", "0pk 1k 2k 3k", "1 3 f 2 f 0"},
		{"W0 W1 W2 W3 A01 A02 A13 B0", "0pk 1k 2k 3k", "3 f 1 2 f 0"},
		// What a page that is not dirty waits for is no matter.
		{"W1 B1 W0 W2 A01 A12 B0", "0pk 1k<2 2dk", "f 0"},
		{"W1 B1 W0 W2 B2 A01 A12 B0", "0pk 1k 2k", "f 0"},
		{"W0 W1 A10 W2 B2 A02 B1", "0k 1pk 2k", "f 0 f 1"},
		// A flush for one ends the waiting of others.
		{"W0 W1 W2 W3 A01 A23 B1 B3 B0", "0pk 1k 2dk 3k", "f 0"},
		// Flush: none, some, all, rising, in whatever order they were changed.
		{"F", "", "f"},
		{"F F", "", "f"},
		{"R0 R1 F", "0k 1k", "f"},
		{"W0 B0 F", "0k", "f"},
		{"W0 F", "0k", "0 f"},
		{"W0 W1 W2 F", "0k 1k 2k", "0 1 2 f"},
		{"W2 W1 W0 F", "0k 1k 2k", "0 1 2 f"},
		{"W1 W3 W0 W2 R0 R3 F", "0k 1k 2k 3k", "0 1 2 3 f"},
		{"W2 R1 W0 F", "0k 1k 2k", "0 2 f"},
		{"W0 W1 W2 B1 F", "0k 1k 2k", "0 2 f"},
		{"W0 W1 W2 B1 W1 F", "0k 1k 2k", "0 1 2 f"},
		// With pages that wait.
		{"W0 W1 A01 F", "0k 1k", "1 f 0 f"},
		{"W0 W1 A10 F", "0k 1k", "0 f 1 f"},
		{"W0 W1 W2 A02 F", "0k 1k 2k", "2 f 0 1 f"},
		{"W0 W1 W2 A02 A21 F", "0k 1k 2k", "1 f 2 f 0 f"},
		{"W0 W1 W2 A10 A20 F", "0k 1k 2k", "0 f 1 2 f"},
		{"W0 W1 W2 A20 F", "0k 1k 2k", "0 1 f 2 f"},
		{"R0 W1 A01 F", "0k 1k", "1 f"},
		{"W1 A41 F", "1k", "1 f"},
	} {
		_, c := open(t, 9, 6)
		done(t, c, x.script)
		if have := told(t, c); have != x.is {
			t.Errorf("%s: %q, want %q", x.script, have, x.is)
		}
		if have := stepped(t, 9, 6, x.script); have != x.steps {
			t.Errorf("%s: steps %q, want %q", x.script, have, x.steps)
		}
	}
}

// P14.3: Back and Drop of a page that is not kept: never brought in, let go, dropped, waiting, pending.
func TestNotKept(t *testing.T) {
	for _, x := range []struct{ script, is string }{
		{"", ""}, {"W0 R1", "0p 1k"}, {"R0 R1", "1k"}, {"W0 D0", ""}, {"W0 B0 D0", "0p"}, {"W1 A01", "0<1 1dk"},
	} {
		_, c := open(t, 9, 1)
		done(t, c, x.script)
		counts := c.Counts()
		want(t, c.Back(0), api.ErrNone)
		want(t, c.Drop(0), api.ErrNone)
		stands(t, c, x.is)
		if c.Counts() != counts {
			t.Error(c.Counts())
		}
	}
}

// P14.3: Back writes all of the page's bytes, at its place, by one step, and nothing else.
func TestBackWrites(t *testing.T) {
	for _, bits := range []int{9, 10, 11} {
		s, c := open(t, bits, 4)
		was, _ := s.Read("f", 0, 4096)
		done(t, c, "R0 W1x")
		want(t, c.Write(1, 3, []byte("yz")), api.OK)
		steps, _ := s.Steps()
		done(t, c, "B1")
		if now, _ := s.Steps(); now != steps+1 {
			t.Error(now - steps)
		}
		long := 1 << bits
		copy(was[long:], "xxxyz"+strings.Repeat("x", long-5))
		if b, _ := s.Read("f", 0, 9999); string(b) != string(was) {
			t.Errorf("Bits %d: the file is %q", bits, b)
		}
		pieces := 0
		for p := range s.Pieces("f") {
			if p.At != int64(long+512*pieces) || p.Len != 512 {
				t.Error(p)
			}
			pieces++
		}
		if pieces != long/512 || s.Pending() != pieces {
			t.Error(pieces, s.Pending())
		}
		reads(t, c, 1, "xxxyz")
	}
}

// P14.3: what the cache has not flushed is pending, even if somebody else has, and what others wrote is flushed with it.
func TestFlushOfOthers(t *testing.T) {
	s, c := open(t, 9, 4)
	done(t, c, "W0 W1 A01 B1")
	want(t, s.Flush("f"), api.OK)
	stands(t, c, "0dk<1 1pk")
	done(t, c, "B0")
	stands(t, c, "0pk 1k")
	counted(t, c, 0, 2, 2, 1)
	want(t, s.Write("f", 5, []byte("z")), api.OK)
	want(t, s.Create("g"), api.OK)
	want(t, s.Write("g", 5, []byte("z")), api.OK)
	done(t, c, "F")
	if s.Pending() != 1 {
		t.Error("only what is written to g is pending then", s.Pending())
	}
}

// P14.3: Drop of a page that is kept, dirty, pending, both, that waits, that others wait for.
func TestDrop(t *testing.T) {
	for _, x := range []struct{ script, is, steps string }{
		{"R0 D0", "", ""},
		{"W0 D0", "", ""},
		{"W0 B0 D0", "0p", ""},
		{"W0 B0 W0 D0", "0p", ""},
		{"W0 B0 D0 F", "", "f"},
		{"W0 W1 A01 D0", "1dk", ""},
		{"W0 B0 W1 A01 D0", "0p 1dk", ""},
		{"W0 W1 A01 D0 R0", "0k 1dk", ""},
		{"W0 W1 W2 A01 A21 D1", "0dk 2dk", ""},
		{"W0 W1 W2 A01 A21 B1 D1", "0dk<1 1p 2dk<1", ""},
		{"W0 W1 W2 A01 A21 B1 W1 D1", "0dk<1 1p 2dk<1", ""},
		{"W0 W1 W2 A01 A21 B1 D1 W1", "0dk<1 1dpk 2dk<1", ""},
		{"W1 A01 A21 D1", "", ""},
		{"W0 W1 W2 A01 A12 D1 B0", "0pk 2dk", "0"},
		{"W0 W1 D0 F", "1k", "1 f"},
		{"W0 D0 F", "", "f"},
	} {
		_, c := open(t, 9, 6)
		done(t, c, x.script)
		if have := told(t, c); have != x.is {
			t.Errorf("%s: %q, want %q", x.script, have, x.is)
		}
		if have := stepped(t, 9, 6, x.script); have != x.steps {
			t.Errorf("%s: steps %q, want %q", x.script, have, x.steps)
		}
	}
}

// P14.3: what was changed is lost by Drop, what was written back is not; there is room then.
func TestDropLoses(t *testing.T) {
	_, c := open(t, 9, 2)
	done(t, c, "W0x B0 W0y W1z D0 D1")
	reads(t, c, 0, "x")
	reads(t, c, 1, "B")
	done(t, c, "W0q W1r D0 R2")
	stands(t, c, "0p 1dk 2k")
	done(t, c, "D2 R2 R1 D2")
	stands(t, c, "0p 1dk")
	reads(t, c, 1, "r")
}

// P14.3: who was dropped and came again was used when it came.
func TestDropAndAge(t *testing.T) {
	_, c := open(t, 9, 3)
	done(t, c, "R0 R1 R2 D0 R0 R3")
	stands(t, c, "0k 2k 3k")
	done(t, c, "D2 D3 R4 R5 R6")
	stands(t, c, "4k 5k 6k")
}
