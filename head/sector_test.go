package head

import (
	"bytes"
	"math/rand"
	"strings"
	"testing"

	"palimpsest/api"
)

// refused tells whether bytes are told to be no head's.
func refused(t *testing.T, name string, b []byte) {
	t.Helper()
	if h, e := Read(b); h != (api.Head{}) || e != api.ErrHead {
		t.Errorf("%s: %+v %v", name, h, e)
	}
}

// P8.1: each field stands in its place, the lowest byte first.
func TestBytesRow(t *testing.T) {
	want := make([]byte, 512)
	copy(want, "PAL1"+
		"\x0b\x00\x00\x00"+
		"\x01\x00\x00\x00\x00\x00\x00\x00"+
		"\x00\x3a\x20\x00\x00\x00\x00\x00"+
		"\x00\x08\x00\x01\x00\x00\x00\x00"+
		"\x0c\x0b\x0a\x00"+
		"\x05\x00\x00\x00"+
		"\x00\x50\x76\x08\x00\x00\x00\x00"+
		"\x21\x43\x00\x00"+
		"\x11\x00\x00\x00"+
		"\x00\xc0\xed\x0f\x00\x00\x00\x00"+
		"\x45\x23\x00\x00"+
		"\x21\x00\x00\x00"+
		"\x00\x78\xab\x00\x00\x00\x00\x00"+
		"\x89\x67\x00\x00"+
		"\x09\x00\x00\x00lower.img")
	b, e := Bytes(full())
	if !bytes.Equal(b, want) || e != api.OK {
		t.Fatal(b, e)
	}
	if h, e := Read(want); h != full() || e != api.OK {
		t.Fatal(h, e)
	}
	held(t, full())
}

// P8.1: a head that may not be has no bytes.
func TestBytesRefuses(t *testing.T) {
	for _, h := range []api.Head{{}, {Bits: 9}, bent(plain(), func(h *api.Head) { h.Bits = 17 }), bent(full(), func(h *api.Head) { h.Backing = strings.Repeat("x", 65) })} {
		if b, e := Bytes(h); b != nil || e != api.ErrArg {
			t.Errorf("%+v: %v %v", h, b, e)
		}
	}
}

// P8.1: bytes that are told are new memory each time.
func TestBytesAreNew(t *testing.T) {
	for _, h := range []api.Head{plain(), full()} {
		one, _ := Bytes(h)
		for i := range one[:cap(one)] {
			one[:cap(one)][i] = 0xee
		}
		two, e := Bytes(h)
		if !bytes.Equal(two, laid(h)) || e != api.OK {
			t.Fatal(two, e)
		}
	}
}

// P8.1: below 512 bytes there is no head; what is behind them is free.
func TestReadLengths(t *testing.T) {
	for _, h := range []api.Head{plain(), full(), bent(plain(), func(h *api.Head) { h.Backing = strings.Repeat("z", 64) })} {
		b := laid(h)
		refused(t, "nil", nil)
		refused(t, "none", []byte{})
		for long := range 512 {
			refused(t, "short", b[:long:long])
			// Spare room behind bytes is none of them.
			refused(t, "short with room", b[:long])
		}
		for _, behind := range [][]byte{nil, {0}, {7}, []byte("PAL1"), bytes.Repeat([]byte{255}, 65536-512), b} {
			if x, e := Read(append(bytes.Clone(b), behind...)); x != h || e != api.OK {
				t.Error(len(behind), x, e)
			}
		}
	}
}

// P8.1: noughts alone, or any other one byte over and over, are no head's bytes.
func TestReadOfOneByte(t *testing.T) {
	for x := range 256 {
		for _, long := range []int{1, 4, 511, 512, 513, 65536} {
			refused(t, "one byte", bytes.Repeat([]byte{byte(x)}, long))
		}
	}
	alone := make([]byte, 512)
	copy(alone, "PAL1")
	refused(t, "the mark alone", alone)
}

// P8.1 and P8.3: of a head's bytes with any one byte changed to any other: what is no head's is refused, what is another head's is read as that one.
func TestReadOfChanged(t *testing.T) {
	heads := []api.Head{
		plain(), full(),
		{Bits: 16, Counts: 65536, CountsLen: 1},
		bent(full(), func(h *api.Head) { h.Backing = strings.Repeat("y", 64) }),
		bent(full(), func(h *api.Head) { h.Backing, h.Flags, h.Snaps, h.SnapsAt, h.SnapsLen = "", 0, 0, 0, 0 }),
	}
	for _, h := range heads {
		good := 0
		b := laid(h)
		for at := range b {
			was := b[at]
			for x := range 256 {
				b[at] = byte(x)
				want, may := said(b)
				back, e := Read(b)
				if !may && (back != (api.Head{}) || e != api.ErrHead) || may && (back != want || e != api.OK) {
					t.Fatalf("byte %d from %d to %d: %+v %v, want %+v %v", at, was, x, back, e, want, may)
				}
				if may {
					good++
					held(t, back)
					if again, e := Bytes(back); !bytes.Equal(again, b) || e != api.OK {
						t.Fatalf("byte %d from %d to %d: other bytes: %v", at, was, x, e)
					}
				}
			}
			b[at] = was
		}
		if good <= 512 {
			t.Error("too few other heads", good)
		}
	}
}

// P8.1: rows of bytes that are no head's.
func TestReadRefuses(t *testing.T) {
	for name, bend := range map[string]func(b []byte){
		"another mark":                  func(b []byte) { copy(b, "PAL2") },
		"a mark in small letters":       func(b []byte) { copy(b, "pal1") },
		"no mark":                       func(b []byte) { copy(b, "\x00\x00\x00\x00") },
		"Bits with a high byte":         func(b []byte) { b[7] = 1 },
		"Flags with a high bit":         func(b []byte) { b[15] = 0x80 },
		"Size below 0":                  func(b []byte) { copy(b[16:], "\x00\xfe\xff\xff\xff\xff\xff\xff") },
		"L1 below 0":                    func(b []byte) { copy(b[24:], "\x00\xfe\xff\xff\xff\xff\xff\xff") },
		"L1Len with the highest bit":    func(b []byte) { b[35] = 0x80 },
		"Counts with the highest bit":   func(b []byte) { b[47] = 0x80 },
		"snapshots without a list":      func(b []byte) { b[52] = 1 },
		"a list without bitmaps":        func(b []byte) { copy(b[72:], "\x00\x02\x00\x00\x00\x00\x00\x00\x01") },
		"a name of 65 bytes":            func(b []byte) { copy(b[84:], "\x41\x00\x00\x00"+strings.Repeat("x", 65)) },
		"a name of 2^32 - 1 bytes":      func(b []byte) { copy(b[84:], "\xff\xff\xff\xff") },
		"a name of 2^31 bytes":          func(b []byte) { b[87] = 0x80 },
		"a name with a nought inside":   func(b []byte) { copy(b[84:], "\x03\x00\x00\x00a\x00b") },
		"a name with a nought ahead":    func(b []byte) { copy(b[84:], "\x02\x00\x00\x00\x00b") },
		"a name with a nought behind":   func(b []byte) { copy(b[84:], "\x02\x00\x00\x00a") },
		"a name of noughts":             func(b []byte) { b[84] = 64 },
		"letters behind the name":       func(b []byte) { copy(b[84:], "\x01\x00\x00\x00ab") },
		"letters without a name":        func(b []byte) { b[88] = 'a' },
		"a letter at the field's end":   func(b []byte) { b[151] = 'a' },
		"a letter behind the field":     func(b []byte) { b[152] = 'a' },
		"a letter at the sector's end":  func(b []byte) { b[511] = 'a' },
		"a letter between the last two": func(b []byte) { b[300] = 1 },
	} {
		b := laid(plain())
		bend(b)
		refused(t, name, b)
	}
}

// P8.1: what is handed in stays as it is, spare room behind it included, and is not kept.
func TestReadKeepsBytes(t *testing.T) {
	for _, h := range []api.Head{plain(), full()} {
		for _, long := range []int{0, 511, 512, 600} {
			whole := append(laid(h), bytes.Repeat([]byte{77}, 512)...)
			was := bytes.Clone(whole)
			back, e := Read(whole[:long])
			if !bytes.Equal(whole, was) {
				t.Fatal("changed", long)
			}
			if long < 512 {
				continue
			}
			clear(whole)
			if back != h || e != api.OK {
				t.Fatal(back, e)
			}
		}
	}
}

// P8.3: Read of Bytes is the head, and Bytes of what was read are the 512 bytes.
func TestThereAndBack(t *testing.T) {
	r := rand.New(rand.NewSource(83))
	for range 2000 {
		h := drawn(r)
		b, e := Bytes(h)
		if e != api.OK {
			continue
		}
		back, e := Read(b)
		if back != h || e != api.OK {
			t.Fatalf("%+v, want %+v: %v", back, h, e)
		}
		if again, e := Bytes(back); !bytes.Equal(again, b) || len(again) != 512 || e != api.OK {
			t.Fatalf("%+v: %v %v", h, again, e)
		}
	}
}

// P8.3: bytes that are drawn, or a head's with many bytes changed, are no head's, or just the bytes of what is read.
func TestReadOfDrawn(t *testing.T) {
	r := rand.New(rand.NewSource(84))
	for range 5000 {
		b := laid(full())
		for range r.Intn(4) {
			b[r.Intn(160)] = byte(r.Intn(256))
		}
		if r.Intn(10) == 0 {
			r.Read(b[r.Intn(512):])
		}
		want, may := said(b)
		h, e := Read(b)
		if h != want || (e == api.OK) != may || !may && e != api.ErrHead {
			t.Fatalf("%v: %+v %v, want %+v", b, h, e, want)
		}
		if again, _ := Bytes(h); may && !bytes.Equal(again, b) {
			t.Fatal(again, b)
		}
	}
}
