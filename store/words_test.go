package store

import (
	"bytes"
	"slices"
	"sort"
	"strings"
	"testing"

	"palimpsest/api"
)

// wordsFile is a file by the chapter's words: lasting bytes as a plain row, and pieces over them in their order.
type wordsFile struct {
	lasting []byte
	pieces  []wordsPiece
}

type wordsPiece struct {
	at    int
	bytes string
}

// words is a store by the chapter's words, for files of some thousand bytes.
type words struct {
	files map[string]*wordsFile
	fates []api.Fate
	steps int
}

func newWords(fates ...api.Fate) *words {
	return &words{files: map[string]*wordsFile{}, fates: slices.Clone(fates)}
}

func (w *words) fate() (api.Fate, api.Errno) {
	w.steps++
	f := api.Fate{}
	if len(w.fates) > 0 {
		f = w.fates[0]
		w.fates = w.fates[1:]
	}
	if f.Keep < 0 {
		f.Keep = 0
	}
	return f, []api.Errno{api.OK, api.ErrDisk, api.ErrFull}[f.Kind]
}

func wordsName(name string) bool {
	return len(name) >= 1 && len(name) <= 64 && !strings.Contains(name, "\x00")
}

func (w *words) create(name string) api.Errno {
	switch {
	case !wordsName(name):
		return api.ErrArg
	case w.files[name] != nil:
		return api.ErrThere
	case len(w.files) == 256:
		return api.ErrFull
	}
	_, e := w.fate()
	if e == api.OK {
		w.files[name] = &wordsFile{}
	}
	return e
}

func (w *words) remove(name string) api.Errno {
	switch {
	case !wordsName(name):
		return api.ErrArg
	case w.files[name] == nil:
		return api.ErrNone
	}
	_, e := w.fate()
	if e == api.OK {
		delete(w.files, name)
	}
	return e
}

func (w *words) write(name string, at int64, b []byte) api.Errno {
	switch {
	case !wordsName(name):
		return api.ErrArg
	case w.files[name] == nil:
		return api.ErrNone
	case at < 0:
		return api.ErrRange
	case at > 1<<28 || at+int64(len(b)) > 1<<28:
		return api.ErrFull
	}
	f := w.files[name]
	fate, e := w.fate()
	var all []wordsPiece
	for i := 0; i < len(b); i++ {
		if i == 0 || (int(at)+i)%512 == 0 {
			all = append(all, wordsPiece{at: int(at) + i})
		}
		all[len(all)-1].bytes += string(b[i : i+1])
	}
	if e != api.OK && fate.Keep < len(all) {
		all = all[:fate.Keep]
	}
	for _, p := range all {
		for len(f.lasting) < p.at+len(p.bytes) {
			f.lasting = append(f.lasting, 0)
		}
		f.pieces = append(f.pieces, p)
	}
	return e
}

func (w *words) flush(name string) api.Errno {
	switch {
	case !wordsName(name):
		return api.ErrArg
	case w.files[name] == nil:
		return api.ErrNone
	}
	f := w.files[name]
	fate, e := w.fate()
	n := len(f.pieces)
	if e != api.OK && fate.Keep < n {
		n = fate.Keep
	}
	for _, p := range f.pieces[:n] {
		copy(f.lasting[p.at:], p.bytes)
	}
	f.pieces = slices.Clone(f.pieces[n:])
	return e
}

func (w *words) resize(name string, size int64) api.Errno {
	switch {
	case !wordsName(name):
		return api.ErrArg
	case w.files[name] == nil:
		return api.ErrNone
	case size < 0:
		return api.ErrRange
	case size > 1<<28:
		return api.ErrFull
	}
	f := w.files[name]
	if _, e := w.fate(); e != api.OK {
		return e
	}
	for len(f.lasting) < int(size) {
		f.lasting = append(f.lasting, 0)
	}
	f.lasting = slices.Clone(f.lasting[:size])
	var left []wordsPiece
	for _, p := range f.pieces {
		for len(p.bytes) > 0 && p.at+len(p.bytes) > int(size) {
			p.bytes = p.bytes[:len(p.bytes)-1]
		}
		if p.bytes != "" {
			left = append(left, p)
		}
	}
	f.pieces = left
	return api.OK
}

func (f *wordsFile) now() []byte {
	b := bytes.Clone(f.lasting)
	for _, p := range f.pieces {
		copy(b[p.at:], p.bytes)
	}
	return b
}

func (w *words) names() []string {
	var l []string
	for n := range w.files {
		l = append(l, n)
	}
	sort.Strings(l)
	return l
}

func (w *words) pending() int {
	n := 0
	for _, f := range w.files {
		n += len(f.pieces)
	}
	return n
}

func (w *words) crash(picks []int) *words {
	left := newWords()
	for _, n := range w.names() {
		f := w.files[n]
		b := bytes.Clone(f.lasting)
		for _, p := range f.pieces {
			pick := 0
			if len(picks) > 0 {
				pick, picks = picks[0], picks[1:]
			}
			if pick%2 == 1 {
				copy(b[p.at:], p.bytes)
			}
		}
		left.files[n] = &wordsFile{lasting: b}
	}
	return left
}

func (w *words) copy() *words {
	c := newWords(w.fates...)
	c.steps = w.steps
	for n, f := range w.files {
		c.files[n] = &wordsFile{bytes.Clone(f.lasting), slices.Clone(f.pieces)}
	}
	return c
}

func (w *words) same(o *words) bool {
	if !slices.Equal(w.names(), o.names()) {
		return false
	}
	for n, f := range w.files {
		if !bytes.Equal(f.lasting, o.files[n].lasting) || !slices.Equal(f.pieces, o.files[n].pieces) {
			return false
		}
	}
	return true
}

// hold holds a store against the words, in all that it tells.
func hold(t *testing.T, s *Store, w *words) {
	t.Helper()
	if !slices.Equal(s.Names(), w.names()) {
		t.Fatalf("names %q, want %q", s.Names(), w.names())
	}
	if n, left := s.Steps(); n != w.steps || left != len(w.fates) {
		t.Fatalf("steps %d %d, want %d %d", n, left, w.steps, len(w.fates))
	}
	if s.Pending() != w.pending() {
		t.Fatalf("pending %d, want %d", s.Pending(), w.pending())
	}
	for n, f := range w.files {
		if size, e := s.Size(n); size != int64(len(f.lasting)) || e != api.OK {
			t.Fatalf("size of %q: %d %v, want %d", n, size, e, len(f.lasting))
		}
		if b, e := s.Read(n, 0, len(f.lasting)+1); !bytes.Equal(b, f.now()) || e != api.OK {
			t.Fatalf("%q is read as %q %v, want %q", n, b, e, f.now())
		}
		var want []api.Piece
		for _, p := range f.pieces {
			want = append(want, api.Piece{At: int64(p.at), Len: len(p.bytes)})
		}
		if l := slices.Collect(s.Pieces(n)); !slices.Equal(l, want) {
			t.Fatalf("pieces of %q: %v, want %v", n, l, want)
		}
	}
}
