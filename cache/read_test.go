package cache

import (
	"bytes"
	"math"
	"strings"
	"testing"

	"palimpsest/api"
)

// reads holds the first bytes of a page against what they should be.
func reads(t *testing.T, c desk, page int64, text string) {
	t.Helper()
	if b, no := c.Read(page, 0, len(text)); string(b) != text || no != api.OK {
		t.Fatalf("page %d reads %q %v, want %q", page, b, no, text)
	}
}

// P14.1: Read of each part of a page, of its end, and of what lies beyond it.
func TestReadParts(t *testing.T) {
	for _, bits := range []int{9, 10, 12, 16} {
		s, c := open(t, bits, 3)
		long := 1 << bits
		want(t, s.Resize("f", top), api.OK)
		want(t, s.Write("f", int64(long), bytes.Repeat([]byte("0123456789abcdef"), long/16)), api.OK)
		whole, _ := s.Read("f", int64(long), long)
		odd := []int{math.MinInt, math.MinInt + 1, -long, -1, 0, 1, 2, 510, 511, 512, 513, long - 1, long, long + 1, 2 * long, math.MaxInt - long, math.MaxInt - 1, math.MaxInt}
		for _, at := range odd {
			for _, n := range odd {
				b, no := c.Read(1, at, n)
				if at < 0 || at > long || n < 0 || n > long || at+n > long {
					if b != nil || no != api.ErrArg {
						t.Errorf("Read(1, %d, %d) with Bits %d: %v", at, n, bits, no)
					}
					continue
				}
				if no != api.OK || len(b) != n || string(b) != string(whole[at:at+n]) {
					t.Errorf("Read(1, %d, %d) with Bits %d: %d bytes, %v", at, n, bits, len(b), no)
				}
			}
		}
		stands(t, c, "1k")
	}
}

// P14.1: Write to each part of a page changes that part alone; one beyond its end changes nothing.
func TestWriteParts(t *testing.T) {
	for _, bits := range []int{9, 11} {
		long := 1 << bits
		for _, at := range []int{math.MinInt, -1, 0, 1, 511, 512, 513, long - 1, long, long + 1, math.MaxInt} {
			for _, n := range []int{0, 1, 2, 511, 512, 513, long - 1, long, long + 1} {
				_, c := open(t, bits, 2)
				should, _ := c.Read(1, 0, long)
				no := c.Write(1, at, bytes.Repeat([]byte("x"), n))
				if at < 0 || at > long || n > long-at {
					want(t, no, api.ErrArg)
					stands(t, c, "1k")
					counted(t, c, 0, 1, 0, 0)
				} else {
					want(t, no, api.OK)
					copy(should[at:], strings.Repeat("x", n))
					stands(t, c, map[bool]string{true: "1dk", false: "1k"}[n > 0])
					counted(t, c, 1, 1, 0, 0)
				}
				reads(t, c, 1, string(should))
				reads(t, c, 0, "A")
			}
		}
	}
}

// P14.1: what is refused brings nothing in.
func TestRefusedIsNotBroughtIn(t *testing.T) {
	_, c := open(t, 9, 1)
	done(t, c, "R3")
	for _, at := range []int{-1, 513, 512, 500} {
		_, no := c.Read(2, at, 20)
		want(t, no, api.ErrArg)
		want(t, c.Write(2, at, make([]byte, 20)), api.ErrArg)
	}
	_, no := c.Read(2, 0, 513)
	want(t, no, api.ErrArg)
	stands(t, c, "3k")
	counted(t, c, 0, 1, 0, 0)
}

// P14.1: a page beyond the file's end is noughts, as is what lies behind the end within one, wherever it ends.
func TestBeyondTheEnd(t *testing.T) {
	for size := range int64(1100) {
		if size > 3 && size%509 > 6 {
			continue
		}
		s, c := open(t, 9, 4)
		want(t, s.Resize("f", size), api.OK)
		was, _ := s.Read("f", 0, int(size))
		was = append(was, make([]byte, 4096)...)
		for _, page := range []int64{0, 1, 2, 3} {
			reads(t, c, page, string(was[512*page:512*page+512]))
		}
		if now, _ := s.Size("f"); now != size {
			t.Error("reading has set the size", now)
		}
		// A page that is written back is written whole.
		want(t, c.Write(1, 3, []byte("x")), api.OK)
		done(t, c, "B1")
		was[515] = 'x'
		if now, _ := s.Size("f"); now != max(size, 1024) {
			t.Error(size, now)
		}
		if b, _ := s.Read("f", 0, 1024); string(b) != string(was[:1024]) {
			t.Error(size, b)
		}
	}
}

// P14.1: a file of no bytes, and the last page of all beyond it.
func TestEmptyFile(t *testing.T) {
	s, c := open(t, 16, 2)
	want(t, s.Resize("f", 0), api.OK)
	reads(t, c, 0, strings.Repeat("\x00", 1<<16))
	reads(t, c, top>>16-1, strings.Repeat("\x00", 1<<16))
	done(t, c, "F")
	if size, _ := s.Size("f"); size != 0 {
		t.Error(size)
	}
}

// P14.1: bytes that are told are no memory of the cache's own, and of no other answer.
func TestReadIsNewMemory(t *testing.T) {
	_, c := open(t, 9, 2)
	done(t, c, "W0x")
	a, _ := c.Read(0, 0, 512)
	b, _ := c.Read(0, 0, 512)
	e, _ := c.Read(0, 512, 0)
	clear(a[:cap(a)])
	_ = append(e, "behind"...)
	if string(b) != strings.Repeat("x", 512) {
		t.Error("answers share memory")
	}
	_ = append(b[:0], bytes.Repeat([]byte("y"), 512)...)
	part, _ := c.Read(0, 8, 8)
	_ = append(part, "zzzzzzzz"...)
	reads(t, c, 0, strings.Repeat("x", 512))
	done(t, c, "B0")
	reads(t, c, 0, strings.Repeat("x", 512))
}

// P14.1: bytes that were handed in may be changed behind the call, and are not changed by it, nor is what lies behind them.
func TestWriteKeepsNoBytes(t *testing.T) {
	s, c := open(t, 9, 2)
	b := bytes.Repeat([]byte("x"), 1024)
	want(t, c.Write(0, 0, b[:512]), api.OK)
	want(t, c.Write(1, 100, b[:7]), api.OK)
	if string(b) != strings.Repeat("x", 1024) {
		t.Error("bytes that were handed in have changed")
	}
	for i := range b {
		b[i] = 'y'
	}
	reads(t, c, 0, strings.Repeat("x", 512))
	reads(t, c, 1, strings.Repeat("B", 100)+"xxxxxxxBB")
	want(t, c.Write(0, 0, []byte("z")), api.OK)
	done(t, c, "F")
	if string(b) != strings.Repeat("y", 1024) {
		t.Error("bytes that were handed in have changed later")
	}
	// What was written to the file stays, whatever is written to the page then.
	want(t, c.Write(0, 0, []byte("later")), api.OK)
	if b, _ := s.Read("f", 0, 3); string(b) != "zxx" {
		t.Errorf("%q", b)
	}
}

// P14.1: Write of no bytes brings a page in, and uses it; it is not dirty for that, and stays so if it is.
func TestWriteOfNoBytes(t *testing.T) {
	s, c := open(t, 9, 2)
	steps, _ := s.Steps()
	for _, b := range [][]byte{nil, {}} {
		want(t, c.Write(2, 0, b), api.OK)
		want(t, c.Write(2, 512, b), api.OK)
		want(t, c.Write(2, 513, b), api.ErrArg)
		want(t, c.Write(2, -1, b), api.ErrArg)
	}
	stands(t, c, "2k")
	counted(t, c, 3, 1, 0, 0)
	done(t, c, "R3 N2 R4")
	stands(t, c, "2k 4k")
	done(t, c, "W4 N4")
	stands(t, c, "2k 4dk")
	done(t, c, "N2 B2")
	if now, _ := s.Steps(); now != steps {
		t.Error(now - steps)
	}
}

// P14.1: kept pages are as the cache has them, whatever others do to the file.
func TestKeptIsKept(t *testing.T) {
	s, c := open(t, 9, 2)
	done(t, c, "R0 R1")
	want(t, s.Write("f", 0, []byte("zzz")), api.OK)
	want(t, s.Resize("f", 512), api.OK)
	reads(t, c, 0, "AAAA")
	reads(t, c, 1, "BBBB")
	done(t, c, "D0 D1")
	reads(t, c, 0, "zzzA")
	reads(t, c, 1, "\x00\x00")
}
