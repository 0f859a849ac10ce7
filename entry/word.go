package entry

import "palimpsest/api"

const (
	leastBits  = 9
	mostBits   = 16
	mostPacked = 1<<14 - 1 // bytes, which a word has 14 bits for
)

// Where a word has its parts: its lowest bits are the kind, whatever that is.
const (
	kindMask = 3
	lenAt    = 2
	placeAt  = 16 // of packed bytes; a cluster's place stands as it is, its lowest bits being noughts
)

// clustered tells whether there are clusters of 2^bits bytes.
func clustered(bits int) bool { return leastBits <= bits && bits <= mostBits }

// may tells whether an entry may be, of bits that may be.
// Whatever a kind has a rule for is held against it and then taken off; behind that the kind alone may be left.
func may(e api.Entry, bits int) bool {
	cluster := int64(1) << bits
	switch e.Kind {
	case api.EntryPacked:
		if !piece(e, cluster) {
			return false
		}
		// The bytes lie in a cluster, which is held against the rule of data.
		e.Place, e.Len = e.Place&^(cluster-1), 0
		fallthrough
	case api.EntryData:
		if e.Place <= 0 || e.Place > api.MaxFile || e.Place%cluster != 0 {
			return false
		}
		e.Place = 0
		fallthrough
	case api.EntryNone, api.EntryZero:
		return e == api.Entry{Kind: e.Kind}
	}
	return false
}

// piece tells whether packed bytes are as many as may be, lie within one cluster, and end within what a file may have.
func piece(e api.Entry, cluster int64) bool {
	long := int64(e.Len)
	if long < 1 || long >= cluster || long > mostPacked {
		return false
	}
	// Nothing is added to the place: a huge one would wrap round.
	return e.Place&(cluster-1) <= cluster-long && e.Place <= api.MaxFile-long
}

// joined tells the word of an entry that may be.
func joined(e api.Entry) uint64 {
	w := uint64(e.Place)
	if e.Kind == api.EntryPacked {
		w = w<<placeAt | uint64(e.Len)<<lenAt
	}
	return w | uint64(e.Kind)
}

// parted tells what a word says, be it an entry that may be or not.
// No bit is left out: those that a kind has no use for become a place, by which it is refused.
func parted(w uint64) api.Entry {
	kind := api.EntryKind(w & kindMask)
	if kind == api.EntryPacked {
		return api.Entry{Kind: kind, Place: int64(w >> placeAt), Len: int(w >> lenAt & mostPacked)}
	}
	return api.Entry{Kind: kind, Place: int64(w &^ kindMask)}
}
