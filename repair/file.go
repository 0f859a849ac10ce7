package repair

import (
	"palimpsest/api"
	"palimpsest/head"
	"palimpsest/store"
)

// file is a file of a store.
type file struct {
	store *store.Store
	name  string
}

// step is something that is done to a file, and may fail.
type step func() api.Errno

// do does steps that must all go well, up to the first that does not.
func do(steps []step) api.Errno {
	for _, s := range steps {
		if no := s(); no != api.OK {
			return no
		}
	}
	return api.OK
}

// read tells all of the file's bytes.
func (f file) read() ([]byte, api.Errno) {
	size, no := f.store.Size(f.name)
	if no != api.OK {
		return nil, no
	}
	return f.store.Read(f.name, 0, int(size))
}

// flag lets the head, which is that one, have FlagDirty or not.
func (f file) flag(h api.Head, dirty bool) api.Errno {
	if dirty == isDirty(h) {
		return api.OK
	}
	h.Flags ^= api.FlagDirty
	b, no := head.Bytes(h)
	if no != api.OK {
		return no
	}
	return f.store.Write(f.name, 0, b)
}

// isDirty tells whether a head has FlagDirty.
func isDirty(h api.Head) bool { return h.Flags&api.FlagDirty != 0 }

// settle lets all of the file last. It asks what does not, rather than what this call wrote: an earlier one that failed may have left bytes that are read as they should be, and do not last.
func (f file) settle() api.Errno {
	for range f.store.Pieces(f.name) {
		return f.store.Flush(f.name)
	}
	return api.OK
}
