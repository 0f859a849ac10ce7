package repair

import (
	"strings"
	"testing"

	"palimpsest/api"
	"palimpsest/head"
	"palimpsest/store"
)

// refused lets each call be refused; nothing is told, nothing changes.
func refused(t *testing.T, s *store.Store, file string, why api.Errno) {
	t.Helper()
	unchanged(t, s, func() {
		for said, call := range map[string]func(*store.Store, string) (api.Fixed, api.Errno){"Repair": Repair, "Could": Could} {
			if f, no := call(s, file); f != (api.Fixed{}) || no != why {
				t.Errorf("%s of %q: %v %v, want %v", said, file, f, no, why)
			}
		}
		for _, dirty := range []bool{false, true} {
			if no := Mark(s, file, dirty); no != why {
				t.Errorf("Mark of %q, %v: %v, want %v", file, dirty, no, why)
			}
		}
	})
}

// Errors: no store, a zero one: ahead of all else.
func TestNoStore(t *testing.T) {
	for _, s := range []*store.Store{nil, {}} {
		for _, file := range []string{name, "", "a\x00", strings.Repeat("n", api.MaxName+1)} {
			refused(t, s, file, api.ErrNil)
		}
	}
}

// Errors: no name, no file.
func TestNoFile(t *testing.T) {
	s := full(t, 9, 4).laid()
	for _, file := range []string{"", "a\x00", "\x00", strings.Repeat("n", api.MaxName+1)} {
		refused(t, s, file, api.ErrArg)
	}
	for _, file := range []string{"a", "F", "f ", strings.Repeat("n", api.MaxName)} {
		refused(t, s, file, api.ErrNone)
	}
	empty, _ := store.New()
	refused(t, empty, name, api.ErrNone)
	want(t, s.Remove(name), api.OK)
	refused(t, s, name, api.ErrNone)
}

// Errors: a file that does not begin with a head.
func TestNoHead(t *testing.T) {
	p := full(t, 9, 4)
	for _, b := range [][]byte{nil, {}, p.b[:1], p.b[:511], p.b[1:], p.b[512:], make([]byte, 512), make([]byte, 4096), []byte(strings.Repeat("PAL1", 128))} {
		refused(t, filed(t, b), name, api.ErrHead)
	}
	for at := range 512 {
		b := p.bent().b
		b[at] ^= 0x80
		if _, no := head.Read(b); no != api.OK {
			refused(t, filed(t, b), name, api.ErrHead)
		}
	}
	// An image beside it is not looked at.
	s := p.laid()
	want(t, s.Create("a"), api.OK)
	refused(t, s, "a", api.ErrHead)
}

// Limits: the longest name, one of any bytes.
func TestNames(t *testing.T) {
	for _, file := range []string{"x", strings.Repeat("n", api.MaxName), " ", "\xff\x01", "ü"} {
		s, _ := store.New()
		want(t, s.Create(file), api.OK)
		want(t, s.Write(file, 0, full(t, 9, 4).bent(30, 2).b), api.OK)
		want(t, Mark(s, file, true), api.OK)
		for _, call := range []func(*store.Store, string) (api.Fixed, api.Errno){Could, Repair} {
			if f, no := call(s, file); f != (api.Fixed{Leaks: 1, Dirty: true}) || no != api.OK {
				t.Errorf("%q: %v %v", file, f, no)
			}
		}
	}
}
