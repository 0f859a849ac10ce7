package stops

import (
	"math"
	"math/big"
	"slices"
	"strconv"
	"strings"
	"testing"

	"palimpsest/api"
)

// drawn are the ways that the words say, by numbers without a bound, cut at 64 bits.
func drawn(pieces int, seed uint64, n int) [][]int {
	times, _ := new(big.Int).SetString("6364136223846793005", 10)
	more, _ := new(big.Int).SetString("1442695040888963407", 10)
	round := new(big.Int).Lsh(big.NewInt(1), 64)
	x := new(big.Int).SetUint64(seed)
	var list [][]int
	for i := range n {
		way := make([]int, pieces)
		for k := range way {
			switch i {
			case 0:
			case 1:
				way[k] = 1
			default:
				x.Mul(x, times)
				x.Add(x, more)
				x.Mod(x, round)
				way[k] = int(x.Bit(63))
			}
		}
		list = append(list, way)
	}
	return list
}

// P7.3: Some tells all 0, all 1, and then what is drawn out of the seed, each way's picks behind those of the one ahead of it.
func TestSome(t *testing.T) {
	stores := []holds{bare(t), made(t, 0), made(t, 1), made(t, 2), several(t), made(t, 62), made(t, 63), made(t, 64), made(t, 130)}
	for _, h := range stores {
		for _, seed := range []uint64{0, 1, 2, 1 << 63, math.MaxUint64 - 1, math.MaxUint64} {
			for _, n := range []int{0, 1, 2, 3, 4, 17, 1000} {
				list, e := Some(h.s, seed, n)
				if len(list) != n || e != api.OK {
					t.Fatal(len(list), n, e)
				}
				if words := drawn(len(h.spots), seed, n); !equal(list, words) {
					t.Fatalf("%d pieces, seed %d, n %d: %v, want %v", len(h.spots), seed, n, list, words)
				}
			}
		}
	}
}

// P7.3: ways that were worked out apart from this program.
func TestSomeRows(t *testing.T) {
	for _, c := range []struct {
		seed uint64
		want string
	}{
		{0, "00100 10000 10001 01100"},
		{1, "01101 11010 11100 10110"},
		{math.MaxUint64, "11101 11101 10011 11011"},
	} {
		var told strings.Builder
		list, e := Some(several(t).s, c.seed, 6)
		want(t, e, api.OK)
		for _, way := range list {
			for _, pick := range way {
				told.WriteString(strconv.Itoa(pick))
			}
			told.WriteByte(' ')
		}
		if told.String() != "00000 11111 "+c.want+" " {
			t.Fatalf("seed %d: %s, want %s", c.seed, told.String(), c.want)
		}
	}
}

// P7.3: n below 0 is ErrArg, n above 1000 ErrLong; pieces may be as many as they like.
func TestSomeRefuses(t *testing.T) {
	for _, h := range []holds{bare(t), made(t, 0), made(t, 1), several(t), made(t, 63)} {
		for n, e := range map[int]api.Errno{
			-1: api.ErrArg, -1000: api.ErrArg, math.MinInt: api.ErrArg, 1001: api.ErrLong, 1002: api.ErrLong, 1 << 40: api.ErrLong, math.MaxInt: api.ErrLong,
		} {
			if list, have := Some(h.s, 1, n); list != nil || have != e {
				t.Fatal(n, len(list), have)
			}
		}
		if list, e := Some(h.s, 1, 1000); len(list) != 1000 || e != api.OK {
			t.Fatal(len(list), e)
		}
	}
}

// P7.3: each way is new memory: changing one changes no other, neither of this answer nor of another one.
func TestSomeIsNew(t *testing.T) {
	for _, h := range []holds{made(t, 1), several(t), made(t, 63)} {
		words := drawn(len(h.spots), 9, 8)
		other, _ := Some(h.s, 9, 8)
		for k := range 8 {
			list, _ := Some(h.s, 9, 8)
			for i := range list[k] {
				list[k][i] = -7
			}
			rest := list[k][len(list[k]):cap(list[k])]
			for i := range rest {
				rest[i] = -8
			}
			for i, way := range list {
				if i != k && !slices.Equal(way, words[i]) {
					t.Fatal(k, i, way)
				}
			}
		}
		if !equal(other, words) {
			t.Fatal(other)
		}
	}
}

// P7.3: what is told are ways of the store: each is plain as it is.
func TestSomeIsPlain(t *testing.T) {
	for _, h := range []holds{bare(t), made(t, 1), several(t), made(t, 62), made(t, 100)} {
		list, e := Some(h.s, 77, 50)
		want(t, e, api.OK)
		for _, way := range list {
			if plain, e := Plain(h.s, way...); !slices.Equal(plain, way) || e != api.OK {
				t.Fatal(way, plain, e)
			}
			left, e := h.s.Crash(way...)
			want(t, e, api.OK)
			h.left(t, left, way)
		}
	}
}
