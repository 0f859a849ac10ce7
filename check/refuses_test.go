package check

import (
	"bytes"
	"reflect"
	"slices"
	"strings"
	"testing"

	"palimpsest/api"
	"palimpsest/head"
	"palimpsest/store"
)

// filed is a store with a file f of these bytes, all of which last.
func filed(t testing.TB, b []byte) *store.Store {
	t.Helper()
	s, _ := store.New()
	want(t, s.Create("f"), api.OK)
	want(t, s.Write("f", 0, b), api.OK)
	want(t, s.Flush("f"), api.OK)
	return s
}

// refused holds a refusal: nothing stands beside it.
func refused(t testing.TB, r api.Report, have, wanted api.Errno) {
	t.Helper()
	if !reflect.DeepEqual(r, api.Report{}) {
		t.Error("beside an error", r)
	}
	want(t, have, wanted)
}

// P15.1: the errors of Check, and their order.
func TestCheckRefuses(t *testing.T) {
	good := drawn(t, 9, 4).b
	s := filed(t, good)
	for _, row := range []struct {
		s    *store.Store
		name string
		no   api.Errno
	}{
		{nil, "f", api.ErrNil},
		{nil, "", api.ErrNil},
		{&store.Store{}, "f", api.ErrNil},
		{&store.Store{}, "", api.ErrNil},
		{s, "", api.ErrArg},
		{s, "f\x00", api.ErrArg},
		{s, strings.Repeat("f", api.MaxName+1), api.ErrArg},
		{s, strings.Repeat("f", api.MaxName), api.ErrNone},
		{s, "g", api.ErrNone},
		{filed(t, nil), "f", api.ErrHead},
		{filed(t, good[:511]), "f", api.ErrHead},
		{filed(t, make([]byte, 4096)), "f", api.ErrHead},
		{filed(t, []byte(strings.Repeat("PAL1", 300))), "f", api.ErrHead},
		{filed(t, append([]byte{0}, good...)), "f", api.ErrHead},
	} {
		r, no := Check(row.s, row.name)
		refused(t, r, no, row.no)
	}
}

// P15.1: Check is a report of the file as it is read, flushed or not; nothing is written, and no step done.
func TestCheckAsItIsRead(t *testing.T) {
	p := drawn(t, 9, 4)
	s, _ := store.New(api.Fate{}, api.Fate{}, api.Fate{Kind: api.FateFail})
	s.Create("f")
	s.Write("f", 0, p.b)
	if r, no := Check(s, "f"); len(r.Finds) != 0 || r.Clusters != made || no != api.OK {
		t.Error(r, no)
	}
	left, _ := s.Crash()
	r, no := Check(left, "f")
	refused(t, r, no, api.ErrHead)
	was := s.Copy()
	Check(s, "f")
	steps, fates := s.Steps()
	if !s.Same(was) || steps != 2 || fates != 1 {
		t.Error("a step was done", steps, fates)
	}
	s = filed(t, p.b)
	s.Write("f", p.at(inL1), []byte{1})
	wanted := []api.Find{{Kind: api.FindPlace, At: p.at(inL1)}}
	if r, no := Check(s, "f"); len(r.Finds) != 4 || r.Finds[0] != wanted[0] || no != api.OK {
		t.Error(r, no)
	}
	left, _ = s.Crash()
	if r, no := Check(left, "f"); len(r.Finds) != 0 || no != api.OK {
		t.Error(r, no)
	}
}

// P15.1: Check is Bytes of what is read, of any file.
func TestCheckIsBytes(t *testing.T) {
	p := drawn(t, 9, 4)
	for n := 0; n <= len(p.b); n += 100 {
		b := p.b[:n]
		r, no := Check(filed(t, b), "f")
		w, bad := Bytes(b)
		if !reflect.DeepEqual(r, w) || no != bad {
			t.Fatal(n, r, no, w, bad)
		}
	}
}

// P15.1: Bytes and Holders of what has no head.
func TestBytesRefuses(t *testing.T) {
	good := drawn(t, 9, 4).b
	short := bytes.Clone(good)
	short[0] = 'Q'
	for _, b := range [][]byte{nil, {}, {1}, good[:1], good[:511], short, good[1:], make([]byte, 512), make([]byte, 5000), bytes.Repeat([]byte{255}, 600)} {
		r, no := Bytes(b)
		refused(t, r, no, api.ErrHead)
		m, no := Holders(b)
		if m != nil {
			t.Error(m)
		}
		want(t, no, api.ErrHead)
	}
}

// P15.1: a head alone has its own cluster, which nothing counts, and no table.
func TestHeadAlone(t *testing.T) {
	for bits := 9; bits <= 16; bits++ {
		c := int64(1) << bits
		h := api.Head{Bits: bits, Order: 4, Counts: c, CountsLen: 1}
		sector, no := head.Bytes(h)
		want(t, no, api.OK)
		for _, long := range []int64{512, 513, c - 1, c, c + 1, 2*c - 1} {
			if long < 512 {
				continue
			}
			b := make([]byte, long)
			copy(b, sector)
			r := told(t, b)
			finds := []api.Find{{Kind: api.FindLow, At: 0, Want: 1}, {Kind: api.FindPlace, At: 40}}
			if !slices.Equal(r.Finds, finds) || !r.Broken || r.Clusters != long/c || r.Held != 1 {
				t.Error(bits, long, r)
			}
		}
		b := make([]byte, 2*c)
		copy(b, sector)
		r := told(t, b)
		finds := []api.Find{{Kind: api.FindLow, At: 0, Want: 1}, {Kind: api.FindLow, At: c, Want: 1}}
		if !slices.Equal(r.Finds, finds) || !r.Broken || r.Clusters != 2 || r.Held != 2 {
			t.Error(bits, r)
		}
	}
}

// P15.1, P15.2: each beginning of an image is gone through.
func TestBeginnings(t *testing.T) {
	for _, bits := range []int{9, 10} {
		p := drawn(t, bits, 4)
		for n := 512; n <= len(p.b); n += 37 {
			told(t, p.b[:n])
		}
		for k := int64(1); k <= made; k++ {
			for _, n := range []int64{p.at(k) - 1, p.at(k), p.at(k) + 1} {
				if n >= 512 && n <= int64(len(p.b)) {
					if r := told(t, p.b[:n]); r.Clusters != n/p.c {
						t.Fatal(n, r)
					}
				}
			}
		}
	}
}

// P15.1: the answers are new memory.
func TestAnswersAreNew(t *testing.T) {
	p := drawn(t, 9, 4)
	p.count(inFree, 3)
	a, _ := Bytes(p.b)
	a.Finds[0] = api.Find{}
	if b, _ := Bytes(p.b); b.Finds[0] != (api.Find{Kind: api.FindLeak, At: p.at(inFree), Have: 3}) {
		t.Error(b)
	}
	m, _ := Holders(p.b)
	clear(m)
	if m, _ := Holders(p.b); len(m) != made-1 {
		t.Error(m)
	}
}
