package store

import (
	"slices"

	"palimpsest/api"
)

// Crash tells what a crash leaves: P6.5.
func (s *Store) Crash(picks ...int) (*Store, api.Errno) {
	if s.none() {
		return nil, api.ErrNil
	}
	if slices.ContainsFunc(picks, func(pick int) bool { return pick < 0 }) {
		return nil, api.ErrArg
	}
	left := &Store{files: map[string]*file{}}
	pick := picker(picks)
	for _, name := range s.Names() {
		left.files[name] = s.files[name].crashed(pick)
	}
	return left, api.OK
}

// picker takes picks one by one: does the next piece last?
func picker(picks []int) func() bool {
	next := 0
	return func() bool {
		if next == len(picks) {
			return false
		}
		next++
		return picks[next-1]%2 == 1
	}
}

// Copy makes another one that goes on apart: P6.5.
func (s *Store) Copy() *Store {
	if s.none() {
		return nil
	}
	c := &Store{map[string]*file{}, slices.Clone(s.fates), s.steps}
	for name, f := range s.files {
		c.files[name] = f.another()
	}
	return c
}

// Same tells whether two have the same files, with the same lasting bytes and the same pieces: P6.5.
func (s *Store) Same(o *Store) bool {
	if s.none() || o.none() {
		return s.none() && o.none()
	}
	if len(s.files) != len(o.files) {
		return false
	}
	for name, f := range s.files {
		other := o.files[name]
		if other == nil || !f.same(other) {
			return false
		}
	}
	return true
}
