package cow

import "palimpsest/api"

// none tells whether there is no disk, or one whose image is closed.
func (d *Disk) none() bool {
	if d == nil {
		return true
	}
	_, _, closed := d.image.State()
	return closed
}

// asked lists the pieces of a range that is to be read.
func (d *Disk) asked(at, n int64) ([]piece, api.Errno) {
	s := span{at: at, n: n}
	switch {
	case d.none():
		return nil, api.ErrNil
	case !s.sectors():
		return nil, api.ErrArg
	}
	s, no := d.find(s)
	if no != api.OK {
		return nil, no
	}
	if !s.within() {
		return nil, api.ErrRange
	}
	return d.pieces(nil, at, n, 0)
}

// writable tells what speaks against a call that writes.
func (d *Disk) writable() api.Errno {
	if d.none() {
		return api.ErrNil
	}
	write, dead, _ := d.image.State()
	switch {
	case !write:
		return api.ErrArg
	case dead:
		return api.ErrDead
	}
	return api.OK
}

// changing changes a range as it is planned, part by part.
// Nothing is written till all of it is planned, and there is room for all of it: what is refused is to change nothing.
func (d *Disk) changing(s span, how plan) api.Errno {
	may := d.writable()
	switch {
	case may == api.ErrNil, may == api.ErrArg:
		return may
	case !s.sectors() || !how.may():
		return api.ErrArg
	}
	s, no := d.find(s)
	switch {
	case no == api.OK && !s.within():
		return api.ErrRange
	case no == api.OK && how.packs && !s.whole():
		return api.ErrPack
	case may != api.OK:
		return may
	case no != api.OK:
		return no
	}
	list, no := d.planned(s, how)
	if no != api.OK {
		return no
	}
	return d.do(list)
}
