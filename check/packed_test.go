package check

import (
	"bytes"
	"testing"

	"palimpsest/api"
	"palimpsest/deflate"
)

// P15.1: packed bytes that tell fewer bytes than a cluster, more, just as many, with and without bytes behind them, at each level.
func TestPackedBytes(t *testing.T) {
	for _, bits := range []int{9, 10, 14, 16} {
		p := drawn(t, bits, 4)
		for level := 1; level <= 2; level++ {
			for _, many := range []int64{0, 1, p.c - 1, p.c, p.c + 1, 2 * p.c} {
				b, no := deflate.Pack(bytes.Repeat([]byte("ab"), int(many/2+1))[:many], level)
				want(t, no, api.OK)
				good := many == p.c
				held(t, p, b, 0, len(b), good)
				held(t, p, b, 5, len(b), good)
				held(t, p, b, 5, len(b)+1, good)
				held(t, p, b, 5, len(b)-1, false)
				held(t, p, b, 5, 1, false)
				held(t, p, b, p.c-int64(len(b)), len(b), good)
			}
		}
	}
}

// held lays packed bytes into the free cluster, and an entry that leads there, and tells whether they are a guest cluster's.
func held(t testing.TB, p *picture, b []byte, inner int64, long int, good bool) {
	t.Helper()
	q := p.clone()
	at := q.at(inL2) + 16
	copy(q.b[q.at(inFree)+inner:], b)
	q.word(at, packed(q.at(inFree)+inner, long))
	q.settle()
	var r api.Report
	if good {
		r = finds(t, q)
	} else {
		r = finds(t, q, noPack(at))
	}
	if r.Packed != 3 {
		t.Error(r)
	}
}

// P15.1: packed bytes that are refused for each reason.
func TestPackedBytesRefused(t *testing.T) {
	p := drawn(t, 9, 4)
	good := pack(t, 512, 'z')
	for i := range good {
		for bit := range 8 {
			b := bytes.Clone(good)
			b[i] ^= 1 << bit
			out, _, no := deflate.Unpack(b, 512)
			held(t, p, b, 1, len(b), no == api.OK && len(out) == 512)
		}
	}
	held(t, p, []byte{7}, 1, 1, false)
	held(t, p, []byte{1, 1, 0, 255, 255, 97}, 1, 6, false)
	held(t, p, []byte{0x4b, 4, 0x41, 0}, 1, 4, false)
	held(t, p, []byte{3, 0}, 1, 2, false)
	held(t, p, make([]byte, 20), 1, 20, false)
}

// P15.1: a piece that is stored, as long as a cluster can say.
func TestPackedStored(t *testing.T) {
	for _, bits := range []int{9, 11, 13} {
		p := drawn(t, bits, 4)
		b, no := deflate.Pack(make([]byte, p.c-6), 0)
		want(t, no, api.OK)
		held(t, p, b, 0, len(b), false)
		held(t, p, b, 1, len(b), false)
		// Two stored pieces of which one entry has all, the other none of the second.
		half, _ := deflate.Pack(bytes.Repeat([]byte{1}, int(p.c)), 1)
		held(t, p, append([]byte{0, 0, 0, 255, 255}, half...), 3, len(half)+5, true)
		held(t, p, append([]byte{0, 0, 0, 255, 255}, half...), 3, len(half)+4, false)
	}
}

// P15.1: many words that lead to the same packed bytes, in several tables, are told each by itself.
func TestPackedManyTimes(t *testing.T) {
	p := drawn(t, 9, 5)
	p.b[p.at(inPacked)+3] |= 7
	var l []api.Find
	for i := range int64(20) {
		at := p.at(inL2) + 8*(i+10)
		p.word(at, packed(p.at(inPacked)+3, p.used))
		l = append(l, noPack(at))
	}
	at := p.at(inShared) + 64
	p.word(at, packed(p.at(inPacked)+3, p.used))
	l = append(append([]api.Find{noPack(p.at(inL2) + 32)}, l...), noPack(at))
	p.settle()
	if r := finds(t, p, l...); r.Packed != 23 {
		t.Error(r)
	}
	if m, _ := Holders(p.b); m[inPacked] != 22+3 {
		t.Error(m)
	}
	// The same place with fewer bytes, and with more.
	p = drawn(t, 9, 4)
	p.word(p.at(inL2)+16, packed(p.at(inPacked)+3, p.used-1))
	p.word(p.at(inL2)+24, packed(p.at(inPacked)+3, p.used+1))
	p.word(p.at(inL2)+48, packed(p.at(inPacked)+3, 1))
	p.settle()
	finds(t, p, noPack(p.at(inL2)+16), noPack(p.at(inL2)+48))
}
