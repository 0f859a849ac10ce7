package repair

import (
	"bytes"
	"fmt"
	"testing"

	"palimpsest/api"
	"palimpsest/head"
	"palimpsest/store"
)

// marked is an image's bytes with the flag set, or not.
func marked(b []byte, dirty bool) []byte {
	b = bytes.Clone(b)
	b[8] = 0
	if dirty {
		b[8] = api.FlagDirty
	}
	return b
}

// marks marks an image, and holds all bytes of its file, and those that last, against what they should be.
func marks(t testing.TB, s *store.Store, dirty bool) {
	t.Helper()
	should := marked(whole(t, s), dirty)
	want(t, Mark(s, name, dirty), api.OK)
	sameBytes(t, whole(t, s), should)
	sameBytes(t, whole(t, lasting(t, s)), should)
	b, _ := s.Read(name, 0, 512)
	h, no := head.Read(b)
	if (h.Flags == api.FlagDirty) != dirty || no != api.OK || s.Pending() != 0 {
		t.Fatal(h, no, s.Pending())
	}
	unchanged(t, s, func() { want(t, Mark(s, name, dirty), api.OK) })
}

// P18.2: true and false, over an image that is dirty and one that is not; over one whose counts are wrong, and over one that is broken.
func TestMark(t *testing.T) {
	for bits := 9; bits < 13; bits++ {
		for order := range 7 {
			p := full(t, bits, order)
			bad := p.bent()
			bad.word(bad.h.L1, 9)
			cut := p.bent()
			cut.b = cut.b[:512]
			long := p.bent()
			long.h.Backing = "a name that is not a file's"
			long.head()
			for _, q := range []*picture{p, p.bent(0, 0, 30, 1), bad, cut, long} {
				for _, was := range []bool{false, true} {
					for _, dirty := range []bool{false, true} {
						marks(t, filed(t, marked(q.b, was)), dirty)
					}
				}
			}
		}
	}
}

// P18.2: several times, there and back; other files stay as they are.
func TestMarkThereAndBack(t *testing.T) {
	p := full(t, 9, 4)
	s := p.laid()
	for i := range 9 {
		marks(t, s, i%3 > 0)
		if b, _ := s.Read("another", 0, len(p.b)); !bytes.Equal(b, p.b) {
			t.Fatal("another file has changed")
		}
	}
}

// P18.2: of a file that was not flushed, what is read lasts; a flag, too, that is read so already.
func TestMarkOfWhatIsRead(t *testing.T) {
	p := full(t, 9, 4)
	for _, was := range []bool{false, true} {
		for _, dirty := range []bool{false, true} {
			s := filed(t, marked(p.bent(0, 0).b, !was))
			want(t, s.Write(name, 0, marked(p.b, was)), api.OK)
			marks(t, s, dirty)
		}
	}
}

// P18.2: a step that fails at each place: its error; the flag is as it was, or as it was asked, and all else as it was; so is what any crash leaves; Mark once more goes well.
func TestMarkFails(t *testing.T) {
	p := full(t, 9, 4)
	for _, was := range []bool{false, true} {
		for _, fate := range fails() {
			base := filed(t, marked(p.b, was))
			for k := range 2 {
				s := base.Copy()
				feed(t, s, k, fate)
				want(t, Mark(s, name, !was), told(fate))
				look := func(s *store.Store, said ...any) {
					sameBytes(t, marked(whole(t, s), false), p.b, said...)
					marks(t, s.Copy(), !was)
					marks(t, s.Copy(), was)
				}
				look(s, k, fate)
				crashes(t, s, func(n int, left *store.Store) { look(left, k, fate, n) })
			}
		}
	}
}

// P18.2: what was written ahead, and not flushed, lasts where the flag that was taken off does.
func TestMarkLastsNoEarlier(t *testing.T) {
	p := full(t, 9, 4)
	for k := range 3 {
		for _, fate := range fails() {
			s := filed(t, p.dirty().b)
			want(t, s.Write(name, 5*512, bytes.Repeat([]byte{9}, 1024)), api.OK)
			feed(t, s, k, fate)
			want(t, Mark(s, name, false), told(fate))
			crashes(t, s, func(n int, left *store.Store) {
				b := whole(t, left)
				if b[8] == 0 && (b[5*512] != 9 || b[7*512-1] != 9) {
					t.Fatal(fmt.Sprint(k, fate, n))
				}
			})
		}
	}
}
