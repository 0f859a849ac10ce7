package entry

import (
	"bytes"
	"iter"
	"math/rand"
	"slices"
	"testing"

	"palimpsest/api"
)

// told is an entry with its place, as All tells it.
type told struct {
	i int
	e api.Entry
}

// gathered is all that an iterator tells.
func gathered(all iter.Seq2[int, api.Entry]) []told {
	var l []told
	for i, e := range all {
		l = append(l, told{i, e})
	}
	return l
}

// listed is what All and First must tell of a table, as the chapter says it.
func listed(table []byte, bits int) (l []told, first int, no api.Errno) {
	if bits < 9 || bits > 16 {
		return nil, 0, api.ErrArg
	}
	for i := range len(table) / 8 {
		e, no := at(table, i, bits)
		if no != api.OK {
			return l, i, api.ErrEntry
		}
		if e.Kind != none {
			l = append(l, told{i, e})
		}
	}
	return l, len(table) / 8, api.OK
}

// heldTable holds All and First of a table against the words; the table stays as it is.
func heldTable(t *testing.T, b []byte, bits int) {
	t.Helper()
	table, whole := roomy(b)
	was := bytes.Clone(whole)
	want, first, wrong := listed(b, bits)
	all := All(table, bits)
	if all == nil {
		t.Fatal("no iterator")
	}
	for range 2 {
		if l := gathered(all); !slices.Equal(l, want) {
			t.Fatalf("All of %v by %d: %v, want %v", b, bits, l, want)
		}
	}
	if i, no := First(table, bits); i != first || no != wrong {
		t.Fatalf("First of %v by %d: %d %v, want %d %v", b, bits, i, no, first, wrong)
	}
	if !bytes.Equal(whole, was) {
		t.Fatalf("the table %v has changed", b)
	}
}

// P9.3: rows of All and First.
func TestTableRows(t *testing.T) {
	d, p, z := told{0, of(data, 1024, 0)}, told{2, of(packed, 1030, 5)}, told{3, of(zero, 0, 0)}
	for _, r := range []struct {
		table []byte
		bits  int
		l     []told
		first int
		no    api.Errno
	}{
		{nil, 9, nil, 0, api.OK},
		{[]byte{}, 9, nil, 0, api.OK},
		{make([]byte, 7), 9, nil, 0, api.OK},
		{make([]byte, 8), 9, nil, 1, api.OK},
		{make([]byte, 9), 9, nil, 1, api.OK},
		{make([]byte, 16), 9, nil, 2, api.OK},
		{bytes.Repeat([]byte{255}, 7), 9, nil, 0, api.OK},
		{bytes.Repeat([]byte{255}, 8), 9, nil, 0, api.ErrEntry},
		{append(laid(1026), 255, 255, 255, 255, 255, 255, 255), 9, []told{d}, 1, api.OK},
		{laid(1026, 0, 67502103, 1, 0), 9, []told{d, p, z}, 5, api.OK},
		{laid(1026, 0, 67502103, 1, 4), 9, []told{d, p, z}, 4, api.ErrEntry},
		{laid(1026, 0, 67502103, 4, 1), 9, []told{d, p}, 3, api.ErrEntry},
		{laid(1026, 0, 1027, 1), 9, []told{d}, 2, api.ErrEntry},
		{laid(1026, 2, 67502103, 1), 9, []told{d}, 1, api.ErrEntry},
		{laid(5, 1026), 9, nil, 0, api.ErrEntry},
		{laid(0, 5, 4), 9, nil, 1, api.ErrEntry},
		{laid(1026, 514), 10, []told{d}, 1, api.ErrEntry},
		{laid(1026), 11, nil, 0, api.ErrEntry},
		{laid(1026), 8, nil, 0, api.ErrArg},
		{laid(4), 8, nil, 0, api.ErrArg},
		{laid(1026), 17, nil, 0, api.ErrArg},
		{nil, 8, nil, 0, api.ErrArg},
		{laid(0, 0), 0, nil, 0, api.ErrArg},
	} {
		if l := gathered(All(r.table, r.bits)); !slices.Equal(l, r.l) {
			t.Errorf("All of %v by %d: %v", r.table, r.bits, l)
		}
		if i, no := First(r.table, r.bits); i != r.first || no != r.no {
			t.Errorf("First of %v by %d: %d %v", r.table, r.bits, i, no)
		}
		heldTable(t, r.table, r.bits)
	}
}

// P9.3: tables of each length, by all bits and by such as there are no clusters of.
func TestTablesOfEachLength(t *testing.T) {
	for long := range 67 {
		for _, bits := range append(oddBits(), 9, 10, 11, 12, 13, 14, 15, 16) {
			heldTable(t, filled(long), bits)
			heldTable(t, make([]byte, long), bits)
		}
	}
}

// P9.3: tables that are drawn, with a word that is none at each place, at two, or nowhere.
func TestTablesDrawn(t *testing.T) {
	r := rand.New(rand.NewSource(94))
	for bits := 9; bits <= 16; bits++ {
		for bad := -1; bad < 40; bad++ {
			var l []uint64
			for range 40 {
				l = append(l, number(drawn(r, bits)))
			}
			if bad >= 0 {
				l[bad] = wrong(r, bits)
				l[r.Intn(40-bad)+bad] = wrong(r, bits)
			}
			b := append(laid(l...), bytes.Repeat([]byte{byte(r.Intn(256))}, r.Intn(8))...)
			if i, no := First(b, bits); bad >= 0 && (i != bad || no != api.ErrEntry) || bad < 0 && (i != 40 || no != api.OK) {
				t.Fatal(bits, bad, i, no)
			}
			heldTable(t, b, bits)
		}
	}
}

// P9.3: a table longer than a cluster's is gone over to its end, too.
func TestLongTable(t *testing.T) {
	b := bytes.Repeat(laid(514, 0, 1), 10000)
	if l := gathered(All(b, 9)); len(l) != 20000 || l[19999] != (told{29999, of(zero, 0, 0)}) || l[19998] != (told{29997, of(data, 512, 0)}) {
		t.Error(len(l))
	}
	if i, no := First(b, 9); i != 30000 || no != api.OK {
		t.Error(i, no)
	}
	copy(b[8*29999:], laid(3))
	if i, no := First(b, 9); i != 29999 || no != api.ErrEntry {
		t.Error(i, no)
	}
	heldTable(t, b, 9)
}

// P9.3: it may be left at any time, and gone through from its begin again.
func TestAllLeftEarly(t *testing.T) {
	table := append(laid(514, 0, 1026, 1, 0, 67502103, 3), 9)
	want, _, _ := listed(table, 9)
	all := All(table, 9)
	for many := range len(want) + 2 {
		var l []told
		for i, e := range all {
			if len(l) == many {
				break
			}
			l = append(l, told{i, e})
		}
		if !slices.Equal(l, want[:min(many, len(want))]) {
			t.Fatal(many, l)
		}
	}
	calls := 0
	all(func(int, api.Entry) bool {
		calls++
		return calls < 2
	})
	if calls != 2 {
		t.Error("it goes on when it is left", calls)
	}
	if l := gathered(all); !slices.Equal(l, want) {
		t.Error(l)
	}
}

// P9.3: two that go through one iterator at a time, one inside the other, do not disturb each other.
func TestAllWithinAll(t *testing.T) {
	table := laid(514, 0, 1026, 1)
	want, _, _ := listed(table, 9)
	all := All(table, 9)
	var outer []told
	for i, e := range all {
		outer = append(outer, told{i, e})
		if l := gathered(all); !slices.Equal(l, want) {
			t.Fatal(l)
		}
	}
	if !slices.Equal(outer, want) {
		t.Error(outer)
	}
}

// P9.3: it tells the bytes as they were when All was called, whatever becomes of the table behind that, or meanwhile.
func TestAllOfAChangedTable(t *testing.T) {
	fresh := laid(514, 0, 1026, 1, 67502103)
	want, _, _ := listed(fresh, 9)
	for name, change := range map[string]func(table []byte){
		"cleared":      func(table []byte) { clear(table) },
		"none":         func(table []byte) { copy(table, laid(4, 4, 4, 4, 4)) },
		"other data":   func(table []byte) { Put(table, 0, of(data, 2048, 0), 9) },
		"mended later": func(table []byte) { Put(table, 1, of(zero, 0, 0), 9) },
	} {
		table := bytes.Clone(fresh)
		all := All(table, 9)
		change(table)
		if l := gathered(all); !slices.Equal(l, want) {
			t.Error(name, l)
		}
		copy(table, fresh)
		var l []told
		for i, e := range all {
			change(table)
			l = append(l, told{i, e})
		}
		if !slices.Equal(l, want) {
			t.Error(name, "meanwhile", l)
		}
	}
	// A word that was none when All was called ends it, though it has been mended.
	table := laid(514, 5, 1026)
	all := All(table, 9)
	copy(table[8:], laid(1))
	if l := gathered(all); !slices.Equal(l, []told{{0, of(data, 512, 0)}}) {
		t.Error(l)
	}
	if l := gathered(All(table, 9)); len(l) != 3 {
		t.Error(l)
	}
}

// P9.3: bits that there are no clusters of: there is an iterator, and it tells nothing.
func TestAllByOddBits(t *testing.T) {
	for _, bits := range oddBits() {
		for _, table := range [][]byte{nil, {}, laid(1), laid(514, 1026), laid(4), make([]byte, 20)} {
			all := All(table, bits)
			if all == nil {
				t.Fatal("no iterator", bits)
			}
			if l := gathered(all); l != nil {
				t.Error(bits, table, l)
			}
			if i, no := First(table, bits); i != 0 || no != api.ErrArg {
				t.Error(bits, table, i, no)
			}
		}
	}
}

// P9.3 and P9.4: what was put is what All tells, all others left out.
func TestAllBehindPut(t *testing.T) {
	r := rand.New(rand.NewSource(95))
	for bits := 9; bits <= 16; bits++ {
		table := make([]byte, 8*200+3)
		put := map[int]api.Entry{}
		for range 150 {
			i, e := r.Intn(200), drawn(r, bits)
			if no := Put(table, i, e, bits); no != api.OK {
				t.Fatal(no)
			}
			put[i] = e
		}
		var want []told
		for i := range 200 {
			if e := put[i]; e.Kind != none {
				want = append(want, told{i, e})
			}
		}
		if l := gathered(All(table, bits)); !slices.Equal(l, want) {
			t.Fatal(bits, l, want)
		}
		if i, no := First(table, bits); i != 200 || no != api.OK {
			t.Fatal(bits, i, no)
		}
	}
}
