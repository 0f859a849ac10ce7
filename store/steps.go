package store

import "palimpsest/api"

// Create makes a file: P6.1.
func (s *Store) Create(name string) api.Errno {
	if e := s.allowed(name); e != api.OK {
		return e
	}
	if s.files[name] != nil {
		return api.ErrThere
	}
	if len(s.files) >= maxFiles {
		return api.ErrFull
	}
	fate := s.step()
	if fate.Kind == api.FateGood {
		s.files[name] = newFile()
	}
	return came(fate)
}

// Remove removes a file: P6.1.
func (s *Store) Remove(name string) api.Errno {
	if _, e := s.file(name); e != api.OK {
		return e
	}
	fate := s.step()
	if fate.Kind == api.FateGood {
		delete(s.files, name)
	}
	return came(fate)
}

// Write writes bytes: P6.2.
func (s *Store) Write(name string, at int64, b []byte) api.Errno {
	f, e := s.file(name)
	if e != api.OK {
		return e
	}
	if at < 0 {
		return api.ErrRange
	}
	// Asked so, as the end of the bytes may be more than a number holds.
	if int64(len(b)) > api.MaxFile-at {
		return api.ErrFull
	}
	fate := s.step()
	// There are no more pieces than bytes.
	left := kept(fate, len(b))
	for p := range cuts(at, len(b)) {
		if left == 0 {
			break
		}
		left--
		f.write(p.At, b[p.At-at:][:p.Len])
	}
	return came(fate)
}

// Flush lets a file's bytes last: P6.3.
func (s *Store) Flush(name string) api.Errno {
	f, e := s.file(name)
	if e != api.OK {
		return e
	}
	fate := s.step()
	f.flush(kept(fate, len(f.pieces)))
	return came(fate)
}

// Resize sets a file's size: P6.3.
func (s *Store) Resize(name string, size int64) api.Errno {
	f, e := s.file(name)
	if e != api.OK {
		return e
	}
	if size < 0 {
		return api.ErrRange
	}
	if size > api.MaxFile {
		return api.ErrFull
	}
	fate := s.step()
	if fate.Kind == api.FateGood {
		f.resize(size)
	}
	return came(fate)
}

// step counts a step, and takes its fate.
func (s *Store) step() api.Fate {
	s.steps++
	if len(s.fates) == 0 {
		return api.Fate{}
	}
	fate := s.fates[0]
	s.fates = s.fates[1:]
	return fate
}

// came is what a step of that fate answers.
func came(fate api.Fate) api.Errno {
	switch fate.Kind {
	case api.FateFail:
		return api.ErrDisk
	case api.FateFull:
		return api.ErrFull
	}
	return api.OK
}

// kept is how many of the first n pieces a step of that fate does.
func kept(fate api.Fate, n int) int {
	if fate.Kind == api.FateGood {
		return n
	}
	return min(max(fate.Keep, 0), n)
}

// ofNoKind tells whether a fate is of no kind.
func ofNoKind(fate api.Fate) bool {
	return fate.Kind < api.FateGood || fate.Kind > api.FateFull
}
