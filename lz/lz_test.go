package lz

import (
	"bytes"
	"fmt"
	"math"
	"math/rand"
	"slices"
	"strings"
	"sync"
	"testing"

	"palimpsest/api"
)

// match is a match as a token.
func match(n, d int) api.Token { return api.Token{Length: n, Distance: d} }

// plains are the bytes of a text as tokens.
func plains(s string) []api.Token {
	var l []api.Token
	for _, c := range []byte(s) {
		l = append(l, api.Token{Byte: c})
	}
	return l
}

// row is tokens, written as texts (each byte one) and matches.
func row(parts ...any) []api.Token {
	var l []api.Token
	for _, p := range parts {
		switch x := p.(type) {
		case string:
			l = append(l, plains(x)...)
		case api.Token:
			l = append(l, x)
		}
	}
	return l
}

// tells says whether a match tells the bytes from a place on, by the words of the chapter: each of its bytes is the one that stands so far ahead of it.
func tells(b []byte, at int, t api.Token) bool {
	if t.Length < 3 || t.Length > 258 || t.Distance < 1 || t.Distance > 32768 || at < t.Distance || t.Length > len(b)-at {
		return false
	}
	for i := range t.Length {
		if b[at+i] != b[at+i-t.Distance] {
			return false
		}
	}
	return true
}

// ofAll is the longest match, and the nearest of these, out of all matches that may be at a place.
func ofAll(b []byte, at int) (api.Token, bool) {
	var best api.Token
	for n := 3; n <= len(b)-at; n++ {
		for d := at; d >= 1; d-- {
			if t := match(n, d); tells(b, at, t) {
				best = t
			}
		}
	}
	return best, best.Length > 0
}

// bySteps is the longest match found distance by distance: for more bytes than ofAll can be asked of.
func bySteps(b []byte, at int) (api.Token, bool) {
	var best api.Token
	for d := 1; d <= 32768 && d <= at; d++ {
		n := 0
		for n < 258 && at+n < len(b) && b[at+n] == b[at+n-d] {
			n++
		}
		if n >= 3 && n > best.Length {
			best = match(n, d)
		}
	}
	return best, best.Length > 0
}

// placed is a token and its place.
type placed struct {
	at int
	t  api.Token
}

// byWords are the tokens of bytes by the words of the chapter.
func byWords(b []byte, ahead bool, find func([]byte, int) (api.Token, bool)) []placed {
	var l []placed
	for at := 0; at < len(b); {
		t, ok := find(b, at)
		if ok && ahead && t.Length < 258 && at+1 < len(b) {
			if next, there := find(b, at+1); there && next.Length > t.Length {
				ok = false
			}
		}
		if !ok {
			t = api.Token{Byte: b[at]}
		}
		l = append(l, placed{at, t})
		if ok {
			at += t.Length
		} else {
			at++
		}
	}
	return l
}

// bare are tokens without their places.
func bare(l []placed) []api.Token {
	var out []api.Token
	for _, x := range l {
		out = append(out, x.t)
	}
	return out
}

// gone is what Tokens tells.
func gone(t *testing.T, b []byte) []placed {
	t.Helper()
	w, e := Tokens(b)
	if w == nil || e != api.OK {
		t.Fatalf("Tokens of %d bytes: %v", len(b), e)
	}
	var l []placed
	for at, x := range w {
		l = append(l, placed{at, x})
	}
	return l
}

// parsed is what Parse tells.
func parsed(t *testing.T, b []byte, ahead bool) []api.Token {
	t.Helper()
	l, e := Parse(b, ahead)
	if e != api.OK {
		t.Fatalf("Parse of %d bytes: %v", len(b), e)
	}
	return l
}

// held holds Tokens and Parse, either way, against the words of the chapter, and expands them.
func held(t *testing.T, b []byte, find func([]byte, int) (api.Token, bool)) {
	t.Helper()
	without, with := byWords(b, false, find), byWords(b, true, find)
	if l := gone(t, b); !slices.Equal(l, without) {
		t.Errorf("Tokens of %s: %v, not %v", short(b), short(l), short(without))
	}
	if l := parsed(t, b, false); !slices.Equal(l, bare(without)) {
		t.Errorf("Parse of %s: %v, not %v", short(b), short(l), short(bare(without)))
	}
	if l := parsed(t, b, true); !slices.Equal(l, bare(with)) {
		t.Errorf("Parse of %s, looking ahead: %v, not %v", short(b), short(l), short(bare(with)))
	}
	again(t, b)
}

// again expands the tokens of bytes, which are no more than these, to them.
func again(t *testing.T, b []byte) {
	t.Helper()
	for name, l := range map[string][]api.Token{"Tokens": bare(gone(t, b)), "Parse": parsed(t, b, false), "Parse, looking ahead": parsed(t, b, true)} {
		if len(l) > len(b) {
			t.Errorf("%s: %d tokens of %d bytes", name, len(l), len(b))
		}
		for _, most := range []int{len(b), len(b) + 1, math.MaxInt} {
			if back, n, e := Expand(most, l...); !bytes.Equal(back, b) || n != len(l) || e != api.OK {
				t.Errorf("%s: Expand(%d) of %s: %s %d %v", name, most, short(b), short(back), n, e)
			}
		}
	}
}

// short is as much of a thing as one wants to see.
func short(x any) string {
	s := fmt.Sprintf("%v", x)
	if b, ok := x.([]byte); ok {
		s = fmt.Sprintf("%q", b)
	}
	return s[:min(len(s), 400)]
}

// allOf are all texts of at most n of the letters.
func allOf(letters string, n int) [][]byte {
	l := [][]byte{nil}
	for i := 0; i < len(l); i++ {
		if len(l[i]) < n {
			for _, c := range []byte(letters) {
				l = append(l, append(slices.Clone(l[i]), c))
			}
		}
	}
	return l
}

// drawn are n bytes: the first of many kinds, but for one in every.
func drawn(r *rand.Rand, n, every, many int) []byte {
	b := make([]byte, n)
	for i := range b {
		if r.Intn(every) == 0 {
			b[i] = byte(r.Intn(many))
		}
	}
	return b
}

// unlike are n bytes of which no three are the same as three others, nor any of them a letter's byte: all words of three that are less than when they are turned, one behind the other, with each byte ahead of those that begin with it.
func unlike(n int) []byte {
	b := make([]byte, 0, n+3)
	for i := range 120 * 120 * 120 {
		x, y, z := 128+byte(i/14400), 128+byte(i/120%120), 128+byte(i%120)
		word := [3]byte{x, y, z}
		if y == x && z == x {
			b = append(b, x)
		} else if less(word, [3]byte{y, z, x}) && less(word, [3]byte{z, x, y}) {
			b = append(b, word[:]...)
		}
		if len(b) >= n {
			break
		}
	}
	return b[:n]
}

// less tells whether a word is less than another.
func less(a, b [3]byte) bool { return bytes.Compare(a[:], b[:]) < 0 }

// P4.1, P4.4: Longest, held against all matches that may be, for few bytes, at all places and beyond.
func TestLongestOfAll(t *testing.T) {
	for _, b := range slices.Concat(allOf("ab", 12), allOf("abc", 8), allOf("abcd", 6)) {
		for at := range b {
			want, there := ofAll(b, at)
			if x, ok := Longest(b, at); x != want || ok != there {
				t.Errorf("Longest(%q, %d): %v %v, not %v %v", b, at, x, ok, want, there)
			}
		}
		for _, at := range []int{-1, len(b), len(b) + 1, math.MinInt, math.MaxInt} {
			if x, ok := Longest(b, at); x != (api.Token{}) || ok {
				t.Errorf("Longest(%q, %d): %v %v", b, at, x, ok)
			}
		}
	}
}

// P4.1, P4.4: Tokens and Parse, of all short texts.
func TestTokensOfAll(t *testing.T) {
	for _, b := range slices.Concat(allOf("ab", 11), allOf("abc", 7), allOf("abcd", 5)) {
		held(t, b, ofAll)
	}
}

// P4.1, P4.4: of bytes that come again and again, more or less often.
func TestOfDrawn(t *testing.T) {
	r := rand.New(rand.NewSource(7))
	for _, many := range []int{2, 3, 4, 16, 256} {
		for _, every := range []int{1, 2, 5, 30, 200} {
			for _, n := range []int{3, 50, 700, 3000} {
				b := drawn(r, n, every, many)
				held(t, b, bySteps)
				for at := 0; at < n; at += 1 + n/100 {
					nearest(t, b, at)
				}
			}
		}
	}
}

// nearest holds Longest against each match that would be one byte longer, or nearer.
func nearest(t *testing.T, b []byte, at int) {
	t.Helper()
	x, ok := Longest(b, at)
	if !ok {
		x = match(2, 0)
	} else if !tells(b, at, x) {
		t.Errorf("Longest(%s, %d): %v does not tell the bytes", short(b), at, x)
	}
	for d := 1; d <= at; d++ {
		if tells(b, at, match(x.Length+1, d)) || d < x.Distance && tells(b, at, match(x.Length, d)) {
			t.Errorf("Longest(%s, %d): %v, but there is one of %d", short(b), at, x, d)
		}
	}
}

// P4.1, P4.4: bytes beyond the window, that come again within it and just outside.
func TestOfLongDrawn(t *testing.T) {
	r := rand.New(rand.NewSource(8))
	for _, period := range []int{32767, 32768, 32769} {
		b := drawn(r, period, 40, 256)
		for len(b) < 70000 {
			from := len(b) - period
			b = append(b, b[from:from+min(period, 100+r.Intn(400))]...)
			b = append(b, byte(r.Intn(256)))
		}
		held(t, b, bySteps)
	}
}

// P4.1: the rows of the chapter.
func TestExamples(t *testing.T) {
	for _, r := range []struct {
		b     string
		ahead bool
		l     []api.Token
	}{
		{"abcabcabcd", false, row("abc", match(6, 3), "d")},
		{"abcbcdexabcde", false, row("abcbcdex", match(3, 8), "de")},
		{"abcbcdexabcde", true, row("abcbcdexa", match(4, 6))},
	} {
		if l := parsed(t, []byte(r.b), r.ahead); !slices.Equal(l, r.l) {
			t.Errorf("%s: %v", r.b, l)
		}
		if l := bare(gone(t, []byte(r.b))); !r.ahead && !slices.Equal(l, r.l) {
			t.Errorf("%s: %v", r.b, l)
		}
	}
	for _, r := range []struct {
		b  string
		at int
		t  api.Token
		ok bool
	}{{"aaaa", 1, match(3, 1), true}, {"aaaa", 2, api.Token{}, false}, {"ab", 0, api.Token{}, false}} {
		if x, ok := Longest([]byte(r.b), r.at); x != r.t || ok != r.ok {
			t.Errorf("Longest(%s, %d): %v %v", r.b, r.at, x, ok)
		}
	}
}

// P4.1: where there is a place, and where there is none.
func TestLongestEdges(t *testing.T) {
	same := func(n int) []byte { return bytes.Repeat([]byte("a"), n) }
	for _, r := range []struct {
		name string
		b    []byte
		at   int
		t    api.Token
	}{
		{"no bytes", nil, 0, api.Token{}},
		{"one", same(1), 0, api.Token{}},
		{"two", same(2), 1, api.Token{}},
		{"three", same(3), 1, api.Token{}},
		{"nothing ahead", same(9), 0, api.Token{}},
		{"below 0", same(9), -1, api.Token{}},
		{"far below 0", same(9), math.MinInt, api.Token{}},
		{"at the end", same(9), 9, api.Token{}},
		{"behind it", same(9), 10, api.Token{}},
		{"far behind it", same(9), math.MaxInt, api.Token{}},
		{"two left", same(9), 7, api.Token{}},
		{"three left", same(9), 6, match(3, 1)},
		{"257 left", same(258), 1, match(257, 1)},
		{"258 left", same(259), 1, match(258, 1)},
		{"259 left", same(260), 1, match(258, 1)},
		{"many left", same(9000), 4000, match(258, 1)},
		{"two the same", []byte("abxaby"), 3, api.Token{}},
		{"three the same", []byte("abcxabcy"), 4, match(3, 4)},
		{"three at the end", []byte("abcxabc"), 4, match(3, 4)},
		{"into itself", []byte("abcabcabcd"), 3, match(6, 3)},
		{"into itself by two", []byte("ababababab"), 2, match(8, 2)},
		{"up to itself", []byte("abcabcx"), 3, match(3, 3)},
		{"the nearer one", []byte("abcdxabcdyabcde"), 10, match(4, 5)},
		{"the longer one, farther", []byte("abcdxabcyabcde"), 9, match(4, 9)},
		{"the longer one, nearer", []byte("abcxabcdyabcde"), 9, match(4, 5)},
		{"the longest one between", []byte("abcxabcdeyabcdzabcdef"), 15, match(5, 11)},
		{"not from ahead of all", []byte("bcabc"), 2, api.Token{}},
	} {
		if x, ok := Longest(r.b, r.at); x != r.t || ok != (r.t.Length > 0) {
			t.Errorf("%s: %v %v, not %v", r.name, x, ok, r.t)
		}
	}
}

// P4.1: matches of 2 to 259 bytes, as far back as they may be, and one more.
func TestAtTheWindowsEdge(t *testing.T) {
	for _, n := range []int{2, 3, 4, 257, 258, 259} {
		for _, d := range []int{n, n + 1, 300, 32767, 32768, 32769, 32770} {
			was := make([]byte, n)
			for i := range was {
				was[i] = byte(i % 120)
			}
			// Bytes of a period would match within themselves, nearer: the first of each round is made another.
			for i := 0; i < n; i += 120 {
				was[i] = byte(120 + i/120)
			}
			ahead := slices.Concat([]byte("<"), was, unlike(d-n))
			b := slices.Concat(ahead, was, []byte(">"))
			at := len(ahead)
			var want api.Token
			if n >= 3 && d <= 32768 {
				want = match(min(n, 258), d)
			}
			if x, ok := Longest(b, at); x != want || ok != (want.Length > 0) {
				t.Errorf("%d bytes %d back: %v %v, not %v", n, d, x, ok, want)
			}
			l := gone(t, b)
			if i := slices.IndexFunc(l, func(x placed) bool { return x.at == at }); i < 0 || want.Length > 0 && l[i].t != want || want.Length == 0 && l[i].t != (api.Token{Byte: b[at]}) {
				t.Errorf("%d bytes %d back: Tokens has %v, not %v", n, d, l[max(i, 0)], want)
			}
			again(t, b)
		}
	}
}

// P4.1: a longer match that is just outside the window is none; a shorter one within it is taken.
func TestOutsideTheWindow(t *testing.T) {
	for far, want := range map[int]api.Token{32768: match(6, 32768), 32769: match(4, 1000)} {
		b := slices.Concat([]byte("abcdef"), unlike(far-6))
		copy(b[far-1000:], "abcdx")
		b = append(b, "abcdefg"...)
		if x, ok := Longest(b, far); x != want || !ok {
			t.Errorf("%d back: %v %v", far, x, ok)
		}
		if l := gone(t, b); !slices.Contains(l, placed{far, want}) {
			t.Errorf("%d back: Tokens has no %v", far, want)
		}
	}
}

// P4.1: looking ahead, where the next place's match is longer, as long, shorter, and where the match has 258 bytes.
func TestLookingAhead(t *testing.T) {
	long := string(unlike(300))
	for _, r := range []struct {
		name          string
		b             string
		without, with []api.Token // of the end of the bytes
	}{
		{"longer", "abcxbcdeyabcdez", row(match(3, 9), "dez"), row("a", match(4, 6), "z")},
		{"as long", "abcxbcdyabcdz", row(match(3, 8), "dz"), row(match(3, 8), "dz")},
		{"shorter", "abcdxbcdyabcdz", row(match(4, 9), "z"), row(match(4, 9), "z")},
		{"none at the next", "abcxabcz", row(match(3, 4), "z"), row(match(3, 4), "z")},
		{"none at this one", "bcdexabcdez", row("a", match(4, 6), "z"), row("a", match(4, 6), "z")},
		{"longer, and longer", "abcxbcdeycdefgzabcdefgh", row(match(3, 15), match(4, 8), "h"), row("ab", match(5, 8), "h")},
		{"longer behind two", "abcdxcdefghyabcdefghz", row(match(4, 12), match(4, 9), "z"), row(match(4, 12), match(4, 9), "z")},
		{"257 and 258", long[:257] + "x" + long[1:259] + "y" + long[:259] + "z", row(match(257, 517), string(long[257:259])+"z"), row(long[:1], match(258, 260), "z")},
		{"258 and 258", long[:258] + "x" + long[1:259] + "y" + long[:259] + "z", row(match(258, 518), string(long[258:259])+"z"), row(match(258, 518), string(long[258:259])+"z")},
		{"258 and more", long[:258] + "x" + long[1:290] + "y" + long[:290] + "z", row(match(258, 549), match(32, 291), "z"), row(match(258, 549), match(32, 291), "z")},
	} {
		b := []byte(r.b)
		for i, want := range [][]api.Token{r.without, r.with} {
			l := parsed(t, b, i == 1)
			if tail := l[max(0, len(l)-len(want)):]; !slices.Equal(tail, want) {
				t.Errorf("%s: ahead %v: %v, not %v", r.name, i == 1, tail, want)
			}
		}
		held(t, b, bySteps)
	}
}

// P4.1, P4.4: no bytes, few, and bytes that are all the same.
func TestOfTheSame(t *testing.T) {
	for n := range 1100 {
		b := bytes.Repeat([]byte{'a'}, n)
		again(t, b)
		for _, l := range [][]api.Token{bare(gone(t, b)), parsed(t, b, false), parsed(t, b, true)} {
			if len(l) > 3+n/258 {
				t.Errorf("%d: %d tokens", n, len(l))
			}
		}
	}
	for _, r := range []struct {
		n int
		l []api.Token
	}{{0, nil}, {1, row("a")}, {2, row("aa")}, {3, row("aaa")}, {4, row("a", match(3, 1))}, {258, row("a", match(257, 1))}, {259, row("a", match(258, 1))}, {260, row("a", match(258, 1), "a")}, {261, row("a", match(258, 1), "aa")}, {262, row("a", match(258, 1), match(3, 1))}} {
		b := bytes.Repeat([]byte{'a'}, r.n)
		for _, l := range [][]api.Token{bare(gone(t, b)), parsed(t, b, false), parsed(t, b, true)} {
			if !slices.Equal(l, r.l) {
				t.Errorf("%d: %v, not %v", r.n, l, r.l)
			}
		}
	}
}

// P4.1, P4.4: MaxPlain bytes go, one more does not.
func TestMaxPlain(t *testing.T) {
	r := rand.New(rand.NewSource(9))
	for name, b := range map[string][]byte{"same": make([]byte, api.MaxPlain), "any": drawn(r, api.MaxPlain, 1, 256), "few": drawn(r, api.MaxPlain, 6, 256), "unlike": unlike(api.MaxPlain)} {
		for _, l := range [][]api.Token{bare(gone(t, b)), parsed(t, b, false), parsed(t, b, true)} {
			if back, n, e := Expand(api.MaxPlain, l...); !bytes.Equal(back, b) || n != len(l) || e != api.OK {
				t.Errorf("%s: %d bytes %d %v", name, len(back), n, e)
			}
			if name == "same" && len(l) > 3+api.MaxPlain/258 || name == "unlike" && len(l) != len(b) || len(l) > len(b) {
				t.Errorf("%s: %d tokens", name, len(l))
			}
		}
		if x, ok := Longest(b, api.MaxPlain-3); name == "same" && (x != match(3, 1) || !ok) {
			t.Error(x, ok)
		}
	}
	b := make([]byte, api.MaxPlain+1)
	for _, at := range []int{-1, 0, 1, 5, api.MaxPlain, api.MaxPlain + 1} {
		if x, ok := Longest(b, at); x != (api.Token{}) || ok {
			t.Errorf("Longest at %d: %v %v", at, x, ok)
		}
	}
	if w, e := Tokens(b); w != nil || e != api.ErrLong {
		t.Error("Tokens:", w == nil, e)
	}
	for _, ahead := range []bool{false, true} {
		if l, e := Parse(b, ahead); len(l) != 0 || e != api.ErrLong {
			t.Error("Parse:", len(l), e)
		}
	}
}

// P4.1: Tokens is left early and gone over again, one within the other, many at a time; it tells the bytes as they were when the call was made.
func TestTokensAgain(t *testing.T) {
	b := []byte(strings.Repeat("abcabcabcdxyz", 5) + "end")
	was := slices.Clone(b)
	w, _ := Tokens(b)
	want := byWords(was, false, ofAll)
	for i := range b {
		b[i] = byte(i)
	}
	all := func() (l []placed) {
		for at, x := range w {
			l = append(l, placed{at, x})
		}
		return l
	}
	if l := all(); !slices.Equal(l, want) {
		t.Errorf("%v, not %v", l, want)
	}
	for stop := range want {
		var l []placed
		for at, x := range w {
			l = append(l, placed{at, x})
			if len(l) > stop {
				break
			}
		}
		if !slices.Equal(l, want[:stop+1]) {
			t.Errorf("left behind %d: %v", stop, l)
		}
	}
	inner := 0
	for range w {
		if slices.Equal(all(), want) {
			inner++
		}
	}
	if inner != len(want) {
		t.Error("one within the other:", inner)
	}
	b[0] = 7
	var group sync.WaitGroup
	lists := make([][]placed, 8)
	for i := range lists {
		group.Go(func() { lists[i] = all() })
	}
	group.Wait()
	for _, l := range lists {
		if !slices.Equal(l, want) {
			t.Errorf("%v, not %v", l, want)
		}
	}
}

// P4.1: what is handed in is not changed, nor the room behind it, nor looked at beyond its end; answers are new memory.
func TestBytesAreKept(t *testing.T) {
	room := []byte("abcabcabcdabcabcabcd and abcabc")
	was := slices.Clone(room)
	b := room[:20]
	first, _ := Parse(b, true)
	other, _ := Parse(b, true)
	want := slices.Clone(first)
	for i := range first {
		first[i] = match(-1, -1)
	}
	if !slices.Equal(other, want) {
		t.Error("two answers share memory")
	}
	Parse(b, false)
	gone(t, b)
	if x, ok := Longest(b, 10); x != match(10, 10) || !ok {
		t.Error(x, ok)
	}
	if x, ok := Longest(room[:19:31], 13); x != match(6, 3) || !ok {
		t.Error(x, ok)
	}
	if !bytes.Equal(room, was) {
		t.Errorf("%q", room)
	}
}
