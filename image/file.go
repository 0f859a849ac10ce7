package image

import (
	"palimpsest/api"
	"palimpsest/head"
	"palimpsest/store"
)

// file is a file of a store.
type file struct {
	store *store.Store
	name  string
}

// step is something that is done to a file: it may be refused, and it may fail.
type step func() api.Errno

// done does steps that must all go well, up to the first that does not. If that one was refused, it is told why; if it failed, the call gives up.
func (f file) done(steps ...step) api.Errno {
	no := api.OK
going:
	for _, s := range steps {
		before, _ := f.store.Steps()
		no = s()
		if no == api.OK {
			continue going
		}
		// The error alone does not tell: the disk may be full for the store as well as for the counts.
		if after, _ := f.store.Steps(); after > before {
			panic(failure{no})
		}
		break going
	}
	return no
}

// write is the step that writes bytes to a place.
func (f file) write(at int64, b []byte) step {
	return func() api.Errno { return f.store.Write(f.name, at, b) }
}

// flush is the step that lets all that was written last.
func (f file) flush() api.Errno { return f.store.Flush(f.name) }

// turn lets that be the file's head. What it leads to is flushed ahead of it.
func (f file) turn(h api.Head) api.Errno {
	b, no := head.Bytes(h)
	if no != api.OK {
		return no
	}
	return f.done(f.flush, f.write(0, b), f.flush)
}

// flag lets the head have these flags.
func (f file) flag(flags uint64) api.Errno {
	h, no := f.head()
	if no != api.OK {
		return no
	}
	h.Flags = flags
	return f.turn(h)
}

// head tells the head, as it is in the file.
func (f file) head() (api.Head, api.Errno) {
	b, no := f.store.Read(f.name, 0, api.Sector)
	if no != api.OK {
		return api.Head{}, no
	}
	return head.Read(b)
}

// read tells n bytes from a place on, all of which must be there.
func (f file) read(at int64, n int) ([]byte, api.Errno) {
	b, no := f.store.Read(f.name, at, n)
	if no == api.OK && len(b) < n {
		return nil, api.ErrRange
	}
	return b, no
}

// over writes bytes over those that are there from a place on.
func (f file) over(at int64, b []byte) api.Errno {
	size, no := f.store.Size(f.name)
	if no != api.OK {
		return no
	}
	if at < 0 || int64(len(b)) > size-at {
		return api.ErrRange
	}
	return f.done(f.write(at, b))
}
