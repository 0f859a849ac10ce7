package cow

import (
	"testing"

	"palimpsest/api"
	"palimpsest/image"
)

// P20.1: a disk is made of an image, and of another disk or none; Image and Below are as handed in.
func TestNew(t *testing.T) {
	k := stacked(t, level{9, 4, 2}, level{10, 4, 3})
	if x, no := New(nil, nil); x != nil || no != api.ErrNil {
		t.Error(x, no)
	}
	if x, no := New(nil, k.top()); x != nil || no != api.ErrNil {
		t.Error(x, no)
	}
	if x, no := New(&image.Image{}, nil); x != nil || no != api.ErrNil {
		t.Error(x, no)
	}
	x := k.top().Image()
	d := over(t, x, nil)
	if d.Image() != x || d.Below() != nil || d.Size() != 1024 {
		t.Error(d.Image(), d.Below(), d.Size())
	}
	e := over(t, x, d)
	if e.Image() != x || e.Below() != d || e.Size() != 1024 {
		t.Error(e.Image(), e.Below(), e.Size())
	}
	if k.top().Below() != k.disks[1] || k.disks[1].Size() != 1536 {
		t.Error(k.top().Below(), k.disks[1].Size())
	}
	unchanged(t, k.s, func() { New(x, d) })
}

// P20.1: the size is the image's, as it is when it is asked.
func TestSize(t *testing.T) {
	for _, sectors := range []int64{0, 1, 2, 7, 200} {
		k := alone(t, 10, 4, sectors)
		if have := k.top().Size(); have != sectors*512 {
			t.Error(sectors, have)
		}
	}
	k := alone(t, 9, 4, 8)
	h, _ := k.top().Image().Head()
	h.Size = 512
	want(t, k.top().Image().Switch(h), api.OK)
	if have := k.top().Size(); have != 512 {
		t.Error(have)
	}
	if _, no := k.top().Read(512, 512); no != api.ErrRange {
		t.Error(no)
	}
}

// calls are all calls of a disk that can be refused, with arguments that may be.
func calls() map[string]func(d *Disk) api.Errno {
	return map[string]func(d *Disk) api.Errno{
		"Read": func(d *Disk) api.Errno {
			b, no := d.Read(0, 512)
			return beside(no, b != nil)
		},
		"Map": func(d *Disk) api.Errno {
			all, no := d.Map(0, 512)
			return beside(no, all != nil)
		},
		"Own": func(d *Disk) api.Errno {
			own, no := d.Own(0)
			return beside(no, own)
		},
		"Write":  func(d *Disk) api.Errno { return d.Write(0, sector(9)) },
		"Zero":   func(d *Disk) api.Errno { return d.Zero(0, 512) },
		"Pack":   func(d *Disk) api.Errno { return d.Pack(0, sector(9), 1) },
		"Forget": func(d *Disk) api.Errno { return d.Forget(0) },
		"Settle": func(d *Disk) api.Errno { return d.Settle(0) },
		"Flush":  func(d *Disk) api.Errno { return d.Flush() },
	}
}

// beside is an error, if nothing stands beside it.
func beside(no api.Errno, something bool) api.Errno {
	if no != api.OK && something {
		return -no
	}
	return no
}

// P20.1 to P20.5: of no disk, of a zero one, of one whose image is closed nothing is told, whatever the arguments are.
func TestNoDisk(t *testing.T) {
	k := alone(t, 9, 4, 2)
	shut := k.top()
	k.closed()
	for said, d := range map[string]*Disk{"nil": nil, "zero": {}, "closed": shut} {
		for call, do := range calls() {
			want(t, do(d), api.ErrNil, said, call)
		}
		for _, at := range odd(1024) {
			want(t, d.Write(at, []byte("x")), api.ErrNil)
			want(t, d.Zero(at, at), api.ErrNil)
			want(t, d.Pack(at, nil, 9), api.ErrNil)
			want(t, d.Forget(at), api.ErrNil)
			want(t, d.Settle(at), api.ErrNil)
			if b, no := d.Read(at, int(at)); len(b) > 0 || no != api.ErrNil {
				t.Error(said, at, no)
			}
			if all, no := d.Map(at, at); all != nil || no != api.ErrNil {
				t.Error(said, at, no)
			}
			if own, no := d.Own(at); own || no != api.ErrNil {
				t.Error(said, at, no)
			}
		}
		if d.Size() != 0 {
			t.Error(said, d.Size())
		}
	}
	for _, d := range []*Disk{nil, {}} {
		if d.Image() != nil || d.Below() != nil {
			t.Error(d.Image(), d.Below())
		}
	}
	if shut.Image() == nil || shut.Below() != nil {
		t.Error("a closed image is still the one that was handed in")
	}
	if x, no := New(shut.Image(), nil); x != nil || no != api.ErrNil {
		t.Error(x, no)
	}
}

// P20.1: a zero disk below is as none; one whose image is closed cannot be read.
func TestBelowNone(t *testing.T) {
	k := stacked(t, level{9, 4, 3}, level{9, 4, 3})
	k.do(1, writes(0, 5))
	x := k.top().Image()
	d := over(t, x, &Disk{})
	sameBytes(t, reads(t, d, 0, 3), rowOf(0, 0, 0))
	if have, no := extentsOf(d, 0, 1536); no != api.OK || len(have) != 1 || have[0] != (api.Extent{Len: 1536}) {
		t.Error(have, no)
	}
	k.do(0, writes(1, 6))
	want(t, k.disks[1].Image().Close(), api.OK)
	sameBytes(t, reads(t, k.top(), 1, 1), sector(6))
	for _, at := range []int64{0, 1024} {
		if b, no := k.top().Read(at, 512); len(b) > 0 || no != api.ErrNil {
			t.Error(at, no)
		}
		if all, no := k.top().Map(at, 512); all != nil || no != api.ErrNil {
			t.Error(at, no)
		}
		want(t, k.top().Settle(at/512), api.ErrNil)
		want(t, k.top().Write(at, sector(7)), api.OK)
	}
}

// reads reads sectors.
func reads(t testing.TB, d *Disk, from, n int64) []byte {
	t.Helper()
	b, no := d.Read(from*api.Sector, int(n*api.Sector))
	want(t, no, api.OK, "read", from, n)
	return b
}
