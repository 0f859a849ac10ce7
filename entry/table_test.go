package entry

import (
	"bytes"
	"encoding/binary"
	"math"
	"math/rand"
	"testing"

	"palimpsest/api"
)

// spots are where entries are asked for of small tables: around both ends, and huge ones, of which eight times as many wrap round.
func spots() []int {
	l := []int{math.MinInt, math.MinInt + 1, math.MaxInt, math.MaxInt - 1, math.MaxInt / 8, math.MaxInt/8 + 1, 1 << 60, 1 << 61, 1<<61 + 1, 1 << 62, 1<<62 + 1, -1 << 60, -1 << 61, -1<<61 + 1, -1 << 62, 1 << 29, 1 << 32, -1 << 32, 1<<32 + 1}
	for i := -9; i <= 12; i++ {
		l = append(l, i)
	}
	return l
}

// filled is a table of so many bytes, whose entries all differ and may be by 9 bits, with other bytes left over.
func filled(long int) []byte {
	var b []byte
	for i := range long/8 + 1 {
		b = append(b, laid(number(of(data+i%2, int64(512*(i+1)), i%2*(i+3))))...)
	}
	return b[:long]
}

// at is the entry that a table says at i, and what Get must answer beside it.
func at(table []byte, i, bits int) (api.Entry, api.Errno) {
	if bits < 9 || bits > 16 {
		return api.Entry{}, api.ErrArg
	}
	for k, rest := 0, table; len(rest) >= 8; k, rest = k+1, rest[8:] {
		if k == i {
			e, may := said(binary.LittleEndian.Uint64(rest), bits)
			if !may {
				return api.Entry{}, api.ErrEntry
			}
			return e, api.OK
		}
	}
	return api.Entry{}, api.ErrRange
}

// P9.2: Get answers of tables of any length, at every place, what the words say, and changes nothing.
func TestGetEverywhere(t *testing.T) {
	for long := range 42 {
		for _, i := range spots() {
			for _, bits := range append(oddBits(), 9, 10, 16) {
				table, whole := roomy(filled(long))
				was := bytes.Clone(whole)
				want, wrong := at(table, i, bits)
				if e, no := Get(table, i, bits); e != want || no != wrong {
					t.Fatalf("Get of %d bytes at %d by %d: %+v %v, want %+v %v", long, i, bits, e, no, want, wrong)
				}
				if !bytes.Equal(whole, was) {
					t.Fatalf("Get of %d bytes at %d by %d has changed them", long, i, bits)
				}
			}
		}
	}
}

// P9.2: rows of Get, the order of its errors among them.
func TestGetRows(t *testing.T) {
	table := append(laid(1026, 0, 1027, 67502103, 1), 2, 2, 0, 0, 0, 0, 0)
	for _, r := range []struct {
		table   []byte
		i, bits int
		e       api.Entry
		no      api.Errno
	}{
		{table, 0, 9, of(data, 1024, 0), api.OK},
		{table, 1, 9, api.Entry{}, api.OK},
		{table, 2, 9, api.Entry{}, api.ErrEntry},
		{table, 3, 9, of(packed, 1030, 5), api.OK},
		{table, 4, 9, of(zero, 0, 0), api.OK},
		{table, 5, 9, api.Entry{}, api.ErrRange},
		{table, 6, 9, api.Entry{}, api.ErrRange},
		{table, -1, 9, api.Entry{}, api.ErrRange},
		{table, 1 << 61, 9, api.Entry{}, api.ErrRange},
		{table, 1<<61 + 2, 9, api.Entry{}, api.ErrRange},
		{table, 0, 11, api.Entry{}, api.ErrEntry},
		{table, 0, 8, api.Entry{}, api.ErrArg},
		{table, 2, 17, api.Entry{}, api.ErrArg},
		{table, 5, 8, api.Entry{}, api.ErrArg},
		{table, -1, 0, api.Entry{}, api.ErrArg},
		{nil, 0, 9, api.Entry{}, api.ErrRange},
		{[]byte{}, 0, 9, api.Entry{}, api.ErrRange},
		{nil, 0, 8, api.Entry{}, api.ErrArg},
		{table[:7], 0, 9, api.Entry{}, api.ErrRange},
		{table[:8], 0, 9, of(data, 1024, 0), api.OK},
		{table[:8], 1, 9, api.Entry{}, api.ErrRange},
		{table[:9], 0, 9, of(data, 1024, 0), api.OK},
		{table[:9], 1, 9, api.Entry{}, api.ErrRange},
		{table[:15], 1, 9, api.Entry{}, api.ErrRange},
		{table[:16], 1, 9, api.Entry{}, api.OK},
	} {
		if e, no := Get(r.table, r.i, r.bits); e != r.e || no != r.no {
			t.Errorf("Get of %d bytes at %d by %d: %+v %v", len(r.table), r.i, r.bits, e, no)
		}
	}
}

// P9.2 and P9.4: Put answers everywhere what the words say; Get behind it is the entry; all other bytes stay, and all of them where it is refused.
func TestPutEverywhere(t *testing.T) {
	for long := range 34 {
		for _, i := range spots() {
			for _, bits := range []int{8, 9, 16, 17} {
				for _, e := range append(good(9), of(data, 65536, 0), of(packed, 65536, 16383), of(4, 0, 0), of(-1, 0, 0), of(none, 0, 1), of(data, 0, 0)) {
					putOnce(t, filled(long), i, e, bits)
				}
			}
		}
	}
}

// putOnce holds one Put against the words.
func putOnce(t *testing.T, b []byte, i int, e api.Entry, bits int) {
	t.Helper()
	table, whole := roomy(b)
	want := bytes.Clone(whole)
	wrong := api.OK
	switch {
	case !words(e, bits):
		wrong = api.ErrArg
	case i < 0 || i >= len(b)/8:
		wrong = api.ErrRange
	default:
		copy(want[8*i:8*i+8], laid(number(e)))
	}
	if no := Put(table, i, e, bits); no != wrong || !bytes.Equal(whole, want) {
		t.Fatalf("Put of %+v to %d bytes at %d by %d: %v, want %v: %v, want %v", e, len(b), i, bits, no, wrong, whole, want)
	}
	if wrong != api.OK {
		return
	}
	for k := range len(b) / 8 {
		want, wrong := at(b, k, bits)
		if k == i {
			want, wrong = e, api.OK
		}
		if back, no := Get(table, k, bits); back != want || no != wrong {
			t.Fatalf("Get of %d behind Put of %+v at %d by %d: %+v %v, want %+v %v", k, e, i, bits, back, no, want, wrong)
		}
	}
}

// P9.2: rows of Put, the order of its errors among them.
func TestPutRows(t *testing.T) {
	d := of(data, 512, 0)
	for _, r := range []struct {
		long, i int
		e       api.Entry
		bits    int
		no      api.Errno
	}{
		{20, 1, d, 9, api.OK},
		{20, 2, d, 9, api.ErrRange},
		{24, 2, d, 9, api.OK},
		{20, 0, d, 10, api.ErrArg},
		{20, 0, of(9, 0, 0), 9, api.ErrArg},
		{20, 2, of(9, 0, 0), 9, api.ErrArg},
		{20, 2, d, 8, api.ErrArg},
		{20, -1, d, 17, api.ErrArg},
		{20, -1, d, 9, api.ErrRange},
		{20, 1 << 61, d, 9, api.ErrRange},
		{20, math.MaxInt, d, 9, api.ErrRange},
		{20, math.MinInt, d, 9, api.ErrRange},
		{0, 0, d, 9, api.ErrRange},
		{0, 0, api.Entry{}, 8, api.ErrArg},
		{7, 0, d, 9, api.ErrRange},
		{8, 0, d, 9, api.OK},
		{8, 1, d, 9, api.ErrRange},
		{9, 0, d, 9, api.OK},
		{9, 1, d, 9, api.ErrRange},
	} {
		if no := Put(make([]byte, r.long), r.i, r.e, r.bits); no != r.no {
			t.Errorf("Put of %+v to %d bytes at %d by %d: %v", r.e, r.long, r.i, r.bits, no)
		}
	}
	if no := Put(nil, 0, d, 9); no != api.ErrRange {
		t.Error(no)
	}
	table := make([]byte, 20)
	if no := Put(table, 1, of(packed, 1030, 5), 9); no != api.OK || !bytes.Equal(table, []byte{0, 0, 0, 0, 0, 0, 0, 0, 23, 0, 6, 4, 0, 0, 0, 0, 0, 0, 0, 0}) {
		t.Error(no, table)
	}
}

// P9.2 and P9.4: a table put into many times is, entry by entry, what was put last; what was wrong there before is written over.
func TestPutManyTimes(t *testing.T) {
	r := rand.New(rand.NewSource(93))
	for bits := 9; bits <= 16; bits++ {
		table := make([]byte, 64*8+5)
		r.Read(table)
		left := bytes.Clone(table[64*8:])
		want := map[int]api.Entry{}
		for range 1000 {
			i, e := r.Intn(64), drawn(r, bits)
			if no := Put(table, i, e, bits); no != api.OK {
				t.Fatal(no)
			}
			want[i] = e
			if back, no := Get(table, i, bits); back != e || no != api.OK {
				t.Fatal(back, no, e)
			}
		}
		for i, e := range want {
			if back, no := Get(table, i, bits); back != e || no != api.OK {
				t.Fatal(i, back, no, e)
			}
		}
		if !bytes.Equal(table[64*8:], left) {
			t.Error("what is left over has changed")
		}
	}
}
