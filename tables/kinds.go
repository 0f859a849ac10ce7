package tables

import (
	"strings"

	"palimpsest/api"
	"palimpsest/wire"
)

const (
	leastBits   = 9
	mostBits    = 16
	leastGran   = 9
	mostGran    = 31
	mostEntries = 1 << 20 // of a snapshot's L1 table
	mostBytes   = 1 << 24 // of a bitmap
)

// snaps is what a list of snapshots is of.
func snaps() kind[api.Snap] {
	return kind[api.Snap]{
		most: api.MaxSnaps,
		name: func(s api.Snap) string { return s.Name },
		may:  maySnap,
		put: func(s api.Snap) []byte {
			return wire.Join(text(s.Name), number(s.L1, 8), number(int64(s.L1Len), 4), number(s.Size, 8))
		},
		read: func(r *reader) api.Snap {
			s := api.Snap{Name: r.text()}
			s.L1 = r.number(8)
			s.L1Len = int(r.number(4))
			s.Size = r.number(8)
			return s
		},
	}
}

// rows is what a list of bitmaps' rows is of.
func rows() kind[api.Row] {
	return kind[api.Row]{
		most: api.MaxBitmaps,
		name: func(x api.Row) string { return x.Name },
		may:  mayRow,
		put: func(x api.Row) []byte {
			return wire.Join(text(x.Name), number(int64(x.Gran), 1), number(int64(x.Flags), 1), number(x.At, 8), number(int64(x.Len), 4))
		},
		read: func(r *reader) api.Row {
			x := api.Row{Name: r.text()}
			x.Gran = int(r.number(1))
			x.Flags = int(r.number(1))
			x.At = r.number(8)
			x.Len = int(r.number(4))
			return x
		},
	}
}

// maySnap tells whether a snapshot may be.
func maySnap(s api.Snap, cluster int64) bool {
	sized := 0 <= s.Size && s.Size <= api.MaxGuest && s.Size%api.Sector == 0
	return named(s.Name) && sized && lies(s.L1, s.L1Len, mostEntries, cluster)
}

// mayRow tells whether a bitmap's row may be.
func mayRow(x api.Row, cluster int64) bool {
	grained := leastGran <= x.Gran && x.Gran <= mostGran
	flagged := 0 <= x.Flags && x.Flags <= api.RowInUse|api.RowOn
	return named(x.Name) && grained && flagged && lies(x.At, x.Len, mostBytes, cluster)
}

// clustered tells whether there are clusters of 2^bits bytes.
func clustered(bits int) bool { return leastBits <= bits && bits <= mostBits }

// named tells whether a name may be.
func named(name string) bool {
	return 1 <= len(name) && len(name) <= api.MaxName && strings.IndexByte(name, 0) < 0
}

// lies tells whether something of so many parts may begin at a place; what has none has no place.
func lies(at int64, long, most int, cluster int64) bool {
	if long == 0 {
		return at == 0
	}
	return 0 < long && long <= most && 0 < at && at <= api.MaxFile && at%cluster == 0
}
