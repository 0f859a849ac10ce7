package entry

import (
	"iter"

	"palimpsest/api"
)

const wide = 8 // bytes of an entry

// has tells whether a table has an entry i. Nothing is reckoned with i: a huge one would wrap round.
func has(table []byte, i int) bool { return 0 <= i && i < len(table)/wide }

// read goes over a table's entries, those that are nothing too, up to the first word that is none; over no entry, if bits may not be.
func read(table []byte, bits int) iter.Seq2[int, api.Entry] {
	return func(yield func(int, api.Entry) bool) {
		for i := 0; has(table, i); i++ {
			e, no := Get(table, i, bits)
			if no != api.OK || !yield(i, e) {
				return
			}
		}
	}
}
