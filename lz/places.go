package lz

import (
	"bytes"
	"iter"

	"palimpsest/api"
)

// places are bytes, and a list that links each place to the last one ahead of it with the same three bytes: how far back that is, 0 if it is beyond the window. Without the list, each place is linked to the one ahead of it.
type places struct {
	b    []byte
	back []uint16
}

// linked is the places of bytes, with their list.
func linked(b []byte) places {
	back := make([]uint16, max(0, len(b)-shortest+1))
	last := map[[shortest]byte]int{}
	for at := range back {
		three := [shortest]byte{b[at], b[at+1], b[at+2]}
		if was, ok := last[three]; ok && at-was <= api.Window {
			back[at] = uint16(at - was)
		}
		last[three] = at
	}
	return places{b, back}
}

// link is how far it is back to the place that a place is linked to; 0: to none.
func (p places) link(at int) int {
	if p.back == nil {
		return 1
	}
	return int(p.back[at])
}

// trail goes back, over places at which a match may begin, from the place that it is a match of.
type trail struct {
	places
	at       int
	followed int // which three bytes of the match have the links that are followed
	seen     int // of how many three bytes the links were looked at
	far      int // how far back it has come
}

// next goes back to the next place at which a match of more than so many bytes may begin; false: there is none.
//
// Each three bytes of such a match stand as far back as the whole: it lies on the links of any of them, and no nearer than where the first of these links leads. So the links of those that last stood farthest back are followed.
func (t *trail) next(length int) bool {
	step := t.link(t.at + t.followed - t.far)
	if step == 0 {
		return false
	}
	t.far += step
	for ; t.seen < length-1; t.seen++ {
		nearest := t.link(t.at + t.seen)
		if nearest == 0 {
			return false
		}
		if nearest > t.far {
			t.followed, t.far = t.seen, nearest
		}
	}
	return t.far <= min(t.at, api.Window)
}

// longer is the longest match at a place, if it has more than so many bytes (2 at least); else the zero token.
func (p places) longer(at, than int) api.Token {
	most := min(len(p.b)-at, longest)
	if than >= most {
		return api.Token{}
	}
	here := p.b[at : at+most]
	length, distance := than, 0
	t := trail{places: p, at: at}
search:
	for t.next(length) {
		there := p.b[at-t.far : at-t.far+most]
		if !bytes.Equal(there[:length+1], here[:length+1]) {
			continue
		}
		distance = t.far
		for there[length] == here[length] {
			length++
			if length == most {
				break search
			}
		}
	}
	if distance == 0 {
		return api.Token{}
	}
	return api.Token{Length: length, Distance: distance}
}

// tokens goes over the tokens, each with its place.
func (p places) tokens(ahead bool) iter.Seq2[int, api.Token] {
	return func(yield func(int, api.Token) bool) {
		var next api.Token // the match at the next place, where it is longer
		for at := 0; at < len(p.b); {
			t := next
			if t.Length == 0 {
				t = p.longer(at, shortest-1)
			}
			next = api.Token{}
			if ahead && t.Length > 0 {
				next = p.longer(at+1, t.Length)
			}
			if t.Length == 0 || next.Length > 0 {
				t = api.Token{Byte: p.b[at]}
			}
			if !yield(at, t) {
				return
			}
			at += size(t)
		}
	}
}
