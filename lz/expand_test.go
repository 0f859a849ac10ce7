package lz

import (
	"bytes"
	"fmt"
	"math"
	"slices"
	"strings"
	"testing"

	"palimpsest/api"
)

// none are tokens that are none.
func none() []api.Token {
	l := []api.Token{
		{Byte: 'a', Length: 3},
		{Byte: 'a', Distance: 1},
		{Byte: 'a', Length: 3, Distance: 1},
		{Byte: 1, Length: 258, Distance: 32768},
		{Byte: 255, Length: 2, Distance: 1},
	}
	for _, n := range []int{math.MinInt, -258, -3, -1, 1, 2, 259, 260, 1 << 32, 1<<32 + 3, 1<<62 + 3, math.MaxInt} {
		l = append(l, match(n, 1), match(n, 32768), match(n, 0), match(n, -1))
	}
	for _, d := range []int{math.MinInt, -32768, -1, 0, 32769, 65536, 1<<16 + 1, 1<<32 + 1, math.MaxInt} {
		l = append(l, match(3, d), match(258, d), match(259, d))
	}
	for _, d := range []int{math.MinInt, -1, 1, 3, 32768, 32769, math.MaxInt} {
		l = append(l, match(0, d))
	}
	return l
}

// P4.2: Check, of all lengths and distances around the edges.
func TestCheck(t *testing.T) {
	for _, x := range none() {
		if e := Check(x); e != api.ErrArg {
			t.Errorf("%v: %v", x, e)
		}
	}
	for c := range 256 {
		if e := Check(api.Token{Byte: byte(c)}); e != api.OK {
			t.Errorf("byte %d: %v", c, e)
		}
	}
	for n := -3; n < 265; n++ {
		for _, d := range []int{-1, 0, 1, 2, 3, 257, 258, 259, 32767, 32768, 32769} {
			for _, c := range []byte{0, 1, 255} {
				want := api.ErrArg
				if n == 0 && d == 0 || n >= 3 && n <= 258 && d >= 1 && d <= 32768 && c == 0 {
					want = api.OK
				}
				if e := Check(api.Token{Byte: c, Length: n, Distance: d}); e != want {
					t.Errorf("%d %d %d: %v, not %v", c, n, d, e, want)
				}
			}
		}
	}
}

// P4.2: Expand, of what it tells and of what it refuses, with the number of the token.
func TestExpand(t *testing.T) {
	ten := row("abc", match(6, 3), "d")
	for _, r := range []struct {
		most int
		l    []api.Token
		b    string
		n    int
		e    api.Errno
	}{
		{9, row("a", match(3, 1)), "aaaa", 2, api.OK},
		{3, row("a", match(3, 1)), "", 1, api.ErrLarge},
		{9, row("a", match(3, 2)), "", 1, api.ErrFar},
		{0, nil, "", 0, api.OK},
		{5, nil, "", 0, api.OK},
		{0, row("a"), "", 0, api.ErrLarge},
		{1, row("a"), "a", 1, api.OK},
		{1, row("ab"), "", 1, api.ErrLarge},
		{2, row("\x00\xff"), "\x00\xff", 2, api.OK},
		{10, ten, "abcabcabcd", 5, api.OK},
		{9, ten, "", 4, api.ErrLarge},
		{8, ten, "", 3, api.ErrLarge},
		{3, ten, "", 3, api.ErrLarge},
		{2, ten, "", 2, api.ErrLarge},
		{math.MaxInt, ten, "abcabcabcd", 5, api.OK},
		{6, row("abc", match(3, 3)), "abcabc", 4, api.OK},
		{6, row("abc", match(3, 2)), "abcbcb", 4, api.OK},
		{7, row("abc", match(4, 3)), "abcabca", 4, api.OK},
		{261, row("abc", match(258, 3)), strings.Repeat("abc", 87), 4, api.OK},
		{260, row("abc", match(258, 3)), "", 3, api.ErrLarge},
		{9, row(match(3, 1)), "", 0, api.ErrFar},
		{0, row(match(3, 1)), "", 0, api.ErrFar},
		{9, row("abc", match(3, 4)), "", 3, api.ErrFar},
		{3, row("abc", match(3, 4)), "", 3, api.ErrFar},
		{2, row("abc", match(3, 4)), "", 2, api.ErrLarge},
		{9, row("ab", match(3, 3), match(258, 1)), "", 2, api.ErrFar},
		{9, row("ab", match(258, 1), match(3, 32768)), "", 2, api.ErrLarge},
		{9, row("abc", match(3, 3), match(3, 7)), "", 4, api.ErrFar},
		{9, row("abc", match(3, 3), match(3, 6)), "abcabcabc", 5, api.OK},
		{-1, nil, "", 0, api.ErrArg},
		{-1, row("ab"), "", 0, api.ErrArg},
		{math.MinInt, row("a", match(3, 2)), "", 0, api.ErrArg},
		{-1, row(match(2, 1)), "", 0, api.ErrArg},
	} {
		if b, n, e := Expand(r.most, r.l...); string(b) != r.b || n != r.n || e != r.e {
			t.Errorf("Expand(%d, %v): %q %d %v, not %q %d %v", r.most, r.l, b, n, e, r.b, r.n, r.e)
		}
	}
}

// P4.2: a token that is none is refused wherever it stands, ahead of whatever else is wrong.
func TestExpandOfNone(t *testing.T) {
	for _, x := range none() {
		for _, l := range [][]api.Token{{x}, row("ab", x), row(x, "ab"), row(match(3, 1), x), row("abc", match(3, 4), "d", x)} {
			for _, most := range []int{-1, 0, 9, math.MaxInt} {
				if b, n, e := Expand(most, l...); len(b) != 0 || n != 0 || e != api.ErrArg {
					t.Errorf("Expand(%d, %v): %q %d %v", most, l, b, n, e)
				}
			}
		}
	}
}

// P4.2: distances at their edges: just as many bytes as there are, and one more.
func TestExpandFar(t *testing.T) {
	for _, d := range []int{1, 2, 3, 258, 32767, 32768} {
		l := plains(strings.Repeat("x", d-1))
		if b, n, e := Expand(1<<20, append(slices.Clone(l), match(3, d))...); len(b) != 0 || n != d-1 || e != api.ErrFar {
			t.Errorf("%d: %d bytes %d %v", d, len(b), n, e)
		}
		l = append(plains("y"), l...)
		for _, n := range []int{3, 258} {
			want := "y" + strings.Repeat("x", d-1)
			for len(want) < d+n {
				want += string(want[len(want)-d])
			}
			if b, k, e := Expand(d+n, append(slices.Clone(l), match(n, d))...); string(b) != want || k != d+1 || e != api.OK {
				t.Errorf("%d bytes %d back: %s %d %v", n, d, short(b), k, e)
			}
		}
	}
}

// P4.2: bounds: each one below how many bytes there are is refused at the token that goes beyond it.
func TestExpandBounds(t *testing.T) {
	l := row("abc", match(7, 2), "d", match(258, 11), match(3, 1), "e")
	whole, _, e := Expand(1000, l...)
	if e != api.OK {
		t.Fatal(e)
	}
	for most := range len(whole) + 3 {
		refused, end := len(l), 0
		for i, x := range l {
			end += max(1, x.Length)
			if end > most {
				refused = i
				break
			}
		}
		b, n, e := Expand(most, l...)
		if refused == len(l) && (!bytes.Equal(b, whole) || n != len(l) || e != api.OK) || refused < len(l) && (len(b) != 0 || n != refused || e != api.ErrLarge) {
			t.Errorf("%d: %s %d %v, not %d", most, short(b), n, e, refused)
		}
	}
}

// P4.2: MaxPlain tokens go, one more does not: behind tokens that are none, and bounds below 0, ahead of all else.
func TestExpandLong(t *testing.T) {
	most := make([]api.Token, api.MaxPlain)
	if b, n, e := Expand(api.MaxPlain, most...); !bytes.Equal(b, make([]byte, api.MaxPlain)) || n != api.MaxPlain || e != api.OK {
		t.Error(len(b), n, e)
	}
	if b, n, e := Expand(api.MaxPlain-1, most...); len(b) != 0 || n != api.MaxPlain-1 || e != api.ErrLarge {
		t.Error(len(b), n, e)
	}
	more := make([]api.Token, api.MaxPlain+1)
	for _, bound := range []int{0, 1, api.MaxPlain, math.MaxInt} {
		if b, n, e := Expand(bound, more...); len(b) != 0 || n != 0 || e != api.ErrLong {
			t.Error(bound, len(b), n, e)
		}
	}
	if _, n, e := Expand(-1, more...); n != 0 || e != api.ErrArg {
		t.Error(n, e)
	}
	more[0] = match(3, 1)
	if _, n, e := Expand(9, more...); n != 0 || e != api.ErrLong {
		t.Error(n, e)
	}
	for _, at := range []int{0, 1, api.MaxPlain} {
		more := make([]api.Token, api.MaxPlain+1)
		more[at] = match(2, 1)
		if _, n, e := Expand(9, more...); n != 0 || e != api.ErrArg {
			t.Error(at, n, e)
		}
	}
}

// P4.2: few tokens tell many bytes, more than MaxPlain too, if the bound is not below.
func TestExpandMany(t *testing.T) {
	l := append(plains("a"), slices.Repeat([]api.Token{match(258, 1)}, 5000)...)
	many := 1 + 258*5000
	for _, most := range []int{many, many + 1, math.MaxInt} {
		if b, n, e := Expand(most, l...); len(b) != many || bytes.Count(b, []byte("a")) != many || n != len(l) || e != api.OK {
			t.Error(most, len(b), n, e)
		}
	}
	if b, n, e := Expand(api.MaxPlain, l...); len(b) != 0 || n != 1+(api.MaxPlain-1)/258 || e != api.ErrLarge {
		t.Error(len(b), n, e)
	}
}

// P4.2, P4.4: all short rows of tokens, held against bytes that are told one by one; what was told is told by its own tokens again.
func TestExpandOfAll(t *testing.T) {
	kinds := row("ab", match(3, 1), match(3, 2), match(4, 3), match(5, 4))
	lists := [][]api.Token{nil}
	for i := 0; i < len(lists); i++ {
		if len(lists[i]) < 5 {
			for _, x := range kinds {
				lists = append(lists, append(slices.Clone(lists[i]), x))
			}
		}
	}
	for _, l := range lists {
		for _, most := range []int{2, 9, 100} {
			want, number, err := oneByOne(most, l)
			b, n, e := Expand(most, l...)
			if string(b) != want || n != number || e != err {
				t.Errorf("Expand(%d, %v): %q %d %v, not %q %d %v", most, l, b, n, e, want, number, err)
			}
			if e == api.OK && most == 9 {
				again(t, b)
			}
		}
	}
}

// oneByOne expands tokens by the words of the chapter.
func oneByOne(most int, l []api.Token) (string, int, api.Errno) {
	s := ""
	for i, x := range l {
		if x.Distance > len(s) {
			return "", i, api.ErrFar
		}
		told := string(rune(x.Byte))
		if x.Length > 0 {
			told = ""
			for len(told) < x.Length {
				whole := s + told
				told += whole[len(whole)-x.Distance : len(whole)-x.Distance+1]
			}
		}
		if s += told; len(s) > most {
			return "", i, api.ErrLarge
		}
	}
	return s, len(l), api.OK
}

// P4.2: lists that are handed in are not changed, nor the room behind them; answers are new memory.
func TestTokensAreKept(t *testing.T) {
	room := row("abc", match(6, 3), "d", match(-5, 99), match(7, 7))
	was := slices.Clone(room)
	l := room[:5]
	first, _, _ := Expand(99, l...)
	other, _, _ := Expand(99, l...)
	Expand(3, l...)
	Expand(99, room...)
	Counts(l...)
	Counts(room...)
	clear(first)
	if string(other) != "abcabcabcd" || !slices.Equal(room, was) {
		t.Error(fmt.Sprintf("%q", other), room)
	}
}
