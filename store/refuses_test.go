package store

import (
	"math"
	"slices"
	"strings"
	"testing"

	"palimpsest/api"
)

// calls are all calls with a name, with places that are right.
func calls(s *Store, name string) map[string]api.Errno {
	_, read := s.Read(name, 0, 0)
	_, size := s.Size(name)
	return map[string]api.Errno{
		"create": s.Create(name), "remove": s.Remove(name), "write": s.Write(name, 0, nil), "flush": s.Flush(name),
		"resize": s.Resize(name, 0), "read": read, "size": size,
	}
}

// P6.1, P6.4, P6.6: what is no name is refused by each call, ahead of all else, takes no fate and is no step.
func TestNoName(t *testing.T) {
	s := made(t, "abc")
	want(t, s.Feed(api.Fate{Kind: fail}), api.OK)
	before := s.Copy()
	for _, name := range []string{"", "\x00", "a\x00", "\x00a", "a\x00b", strings.Repeat("n", 65), strings.Repeat("n", 64) + "\x00", strings.Repeat("n", 1000)} {
		for call, e := range calls(s, name) {
			if e != api.ErrArg {
				t.Fatalf("%s of %q: %v", call, name, e)
			}
		}
		want(t, s.Write(name, -1, make([]byte, 9)), api.ErrArg)
		want(t, s.Resize(name, -1), api.ErrArg)
		if b, e := s.Read(name, -1, -1); b != nil || e != api.ErrArg {
			t.Fatal(b, e)
		}
		pieces(t, s, name)
	}
	steps(t, s, 3, 1)
	if !s.Same(before) {
		t.Fatal("changed")
	}
	for _, name := range []string{"\x01", "\xff\xfe", " ", strings.Repeat("n", 64), "a/b\n"} {
		o, _ := New()
		want(t, o.Create(name), api.OK)
		want(t, o.Write(name, 0, []byte("x")), api.OK)
		reads(t, o, name, "x")
	}
}

// P6.6: what is refused changes nothing and takes no fate; where several errors apply, the first one of the chapter is told.
func TestRefused(t *testing.T) {
	s := made(t, "abc")
	want(t, s.Write("a", 2, []byte("x")), api.OK)
	want(t, s.Feed(api.Fate{Kind: fail}), api.OK)
	before := s.Copy()
	long := make([]byte, api.MaxFile+1)
	for i, c := range []struct{ have, want api.Errno }{
		{s.Create("a"), api.ErrThere},
		{s.Remove("b"), api.ErrNone},
		{s.Flush("b"), api.ErrNone},
		{s.Write("b", 0, []byte("x")), api.ErrNone},
		{s.Write("b", -1, long), api.ErrNone},
		{s.Write("b", api.MaxFile, long), api.ErrNone},
		{s.Write("a", -1, nil), api.ErrRange},
		{s.Write("a", -1, long), api.ErrRange},
		{s.Write("a", math.MinInt64, long), api.ErrRange},
		{s.Write("a", 0, long), api.ErrFull},
		{s.Write("a", api.MaxFile, []byte("x")), api.ErrFull},
		{s.Resize("b", -1), api.ErrNone},
		{s.Resize("b", api.MaxFile+1), api.ErrNone},
		{s.Resize("a", -1), api.ErrRange},
		{s.Resize("a", api.MaxFile+1), api.ErrFull},
		{s.Feed(api.Fate{}, api.Fate{Kind: 3}), api.ErrArg},
	} {
		if c.have != c.want {
			t.Fatalf("call %d: %v, want %v", i, c.have, c.want)
		}
	}
	if b, e := s.Read("b", -1, -1); b != nil || e != api.ErrNone {
		t.Fatal(b, e)
	}
	if n, e := s.Size("b"); n != 0 || e != api.ErrNone {
		t.Fatal(n, e)
	}
	steps(t, s, 4, 1)
	if !s.Same(before) {
		t.Fatal("changed")
	}
	want(t, s.Flush("a"), api.ErrDisk)
	steps(t, s, 5, 0)
}

// Of a nil store and of a zero one each call answers ErrNil, ahead of all else, or zero answers.
func TestNoStore(t *testing.T) {
	real, _ := New()
	for i, s := range []*Store{nil, {}} {
		for _, name := range []string{"a", "", "\x00"} {
			for call, e := range calls(s, name) {
				if e != api.ErrNil {
					t.Fatalf("%d: %s: %v", i, call, e)
				}
			}
			if l := slices.Collect(s.Pieces(name)); l != nil {
				t.Fatal(l)
			}
		}
		want(t, s.Feed(), api.ErrNil)
		want(t, s.Feed(api.Fate{Kind: 9}), api.ErrNil)
		if b, e := s.Read("a", -1, -1); b != nil || e != api.ErrNil {
			t.Fatal(b, e)
		}
		if c, e := s.Crash(); c != nil || e != api.ErrNil {
			t.Fatal(c, e)
		}
		if c, e := s.Crash(-1); c != nil || e != api.ErrNil {
			t.Fatal(c, e)
		}
		if s.Names() != nil || s.Pending() != 0 || s.Copy() != nil {
			t.Fatal("a store that is none tells something")
		}
		steps(t, s, 0, 0)
		for _, o := range []*Store{nil, {}} {
			if !s.Same(o) || !o.Same(s) {
				t.Fatal("two that are none are not the same")
			}
		}
		if s.Same(real) || real.Same(s) {
			t.Fatal("one that is none is the same as one without files")
		}
	}
}
