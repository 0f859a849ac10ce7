package repair

import (
	"bytes"
	"slices"

	"palimpsest/api"
	"palimpsest/check"
	"palimpsest/counts"
	"palimpsest/head"
)

// mend is what is to be mended of an image.
type mend struct {
	file
	layout
	head  api.Head
	bytes []byte                      // the file's, as they were read; its blocks, as they are to be so far
	wrong map[api.FindKind][]api.Find // what was found, by what is to be done about it, in order
}

// looked goes through an image, and tells what is to be mended, if it can be.
func looked(f file) (*mend, api.Errno) {
	b, no := f.read()
	if no != api.OK {
		return nil, no
	}
	report, no := check.Bytes(b)
	if no != api.OK {
		return nil, no
	}
	h, no := head.Read(b)
	if no != api.OK {
		return nil, no
	}
	m := &mend{f, laid(h, b), h, b, map[api.FindKind][]api.Find{}}
	if no := m.sort(report.Finds); no != api.OK {
		return nil, no
	}
	return m, api.OK
}

// sort sorts what was found, if all of it can be mended.
func (m *mend) sort(finds []api.Find) api.Errno {
	most, _ := counts.Most(m.head.Order)
	full := false
	for _, f := range finds {
		switch f.Kind {
		case api.FindLow:
			if m.place(m.block(f)) == missing {
				return api.ErrBroken
			}
			full = full || f.Want > most
			fallthrough
		case api.FindLeak:
			m.wrong[f.Kind] = append(m.wrong[f.Kind], f)
		default:
			return api.ErrBroken
		}
	}
	// Told only now: what can't be mended for another reason is broken, whatever its counts can say.
	if full {
		return api.ErrFull
	}
	return api.OK
}

// fixed tells what is to be mended, or was.
func (m *mend) fixed() api.Fixed {
	return api.Fixed{Low: len(m.wrong[api.FindLow]), Leaks: len(m.wrong[api.FindLeak]), Dirty: isDirty(m.head)}
}

// raise lets the counts that are too low be what the holders are.
func (m *mend) raise() api.Errno { return m.set(m.wrong[api.FindLow]) }

// lower lets those that are too high be what the holders are.
func (m *mend) lower() api.Errno { return m.set(m.wrong[api.FindLeak]) }

// clean takes the dirty flag off.
func (m *mend) clean() api.Errno { return m.flag(m.head, false) }

// set lets the counts of these finds, which are in order, be what the holders are, block by block.
func (m *mend) set(finds []api.Find) api.Errno {
	for len(finds) > 0 {
		block, many := m.first(finds)
		change := func(b []byte) {
			for _, f := range finds[:many] {
				counts.Set(b, m.head.Order, m.spot(f), f.Want)
			}
		}
		if no := m.write(m.place(block), change); no != api.OK {
			return no
		}
		finds = finds[many:]
	}
	return api.OK
}

// write lets the block at a place be changed, and writes those of its sectors that are not as they were.
func (m *mend) write(place int64, change func(b []byte)) api.Errno {
	block := m.bytes[place:][:m.cluster]
	was := slices.Clone(block)
	change(block)
sectors:
	for at := 0; at < len(block); at += api.Sector {
		sector := block[at:][:api.Sector]
		if bytes.Equal(sector, was[at:][:api.Sector]) {
			continue sectors
		}
		if no := m.store.Write(m.name, place+int64(at), sector); no != api.OK {
			return no
		}
	}
	return api.OK
}
