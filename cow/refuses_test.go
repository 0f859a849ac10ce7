package cow

import (
	"math"
	"testing"

	"palimpsest/api"
)

// reading are the calls that only read.
func reading() map[string]bool { return map[string]bool{"Read": true, "Map": true, "Own": true} }

// P20.1 to P20.5: an image that is open for reading alone is read, and not written, over ones that are open either way.
func TestReadingAlone(t *testing.T) {
	base := stacked(t, level{10, 4, 6}, level{10, 4, 6})
	base.mixed()
	base = base.again()
	k := &stack{t: t, s: base.s, plains: base.plains}
	k.open(false, 2)
	k.same()
	unchanged(t, k.s, func() {
		for call, do := range calls() {
			no := do(k.top())
			if reading()[call] && no != api.OK || !reading()[call] && no != api.ErrArg {
				t.Error(call, no)
			}
		}
		// That it is not to be written is told ahead of a range that is beyond, and of what is not whole.
		want(t, k.top().Write(4096, sector(1)), api.ErrArg)
		want(t, k.top().Write(0, nil), api.ErrArg)
		want(t, k.top().Zero(4096, 512), api.ErrArg)
		want(t, k.top().Zero(0, 0), api.ErrArg)
		want(t, k.top().Pack(4096, sector(1), 1), api.ErrArg)
		want(t, k.top().Pack(512, sector(1), 1), api.ErrArg)
		want(t, k.top().Forget(-1), api.ErrArg)
		want(t, k.top().Settle(-1), api.ErrArg)
		want(t, k.top().Settle(1<<40), api.ErrArg)
	})
	write := over(t, imaged(t, k.s, "a", true), k.disks[1])
	want(t, write.Write(512, sector(9)), api.OK)
	want(t, write.Settle(1), api.OK)
	k.plains[0].write(1, []int{9})
	k.plains[0].settle(1)
	if wrong := k.plains[0].differs(write); wrong != "" {
		t.Error(wrong)
	}
}

// P20.2 to P20.6: a dead image is read, and not written; what may not be, and what is beyond, is told ahead of that.
func TestDead(t *testing.T) {
	k := stacked(t, level{10, 4, 7}, level{10, 4, 7})
	k.mixed()
	want(t, k.top().Flush(), api.OK)
	want(t, k.s.Feed(api.Fate{Kind: api.FateFail}), api.OK)
	want(t, k.top().Flush(), api.ErrDisk)
	k.same()
	d := k.top()
	unchanged(t, k.s, func() {
		for call, do := range map[string]func(d *Disk) api.Errno{
			"Write": func(d *Disk) api.Errno { return d.Write(0, sector(9)) }, "nothing": func(d *Disk) api.Errno { return d.Write(0, nil) },
			"Zero": func(d *Disk) api.Errno { return d.Zero(0, 512) }, "Zero of nothing": func(d *Disk) api.Errno { return d.Zero(3584, 0) },
			"Pack": func(d *Disk) api.Errno { return d.Pack(0, rowOf(1, 2), 1) }, "Pack of nothing": func(d *Disk) api.Errno { return d.Pack(0, nil, 1) },
			"Forget": func(d *Disk) api.Errno { return d.Forget(0) }, "Forget none": func(d *Disk) api.Errno { return d.Forget(-1) },
			"Settle": func(d *Disk) api.Errno { return d.Settle(0) }, "Settle none": func(d *Disk) api.Errno { return d.Settle(-1) },
			"Settle too far": func(d *Disk) api.Errno { return d.Settle(1 << 40) },
			"Flush":          func(d *Disk) api.Errno { return d.Flush() },
		} {
			want(t, do(d), api.ErrDead, call)
		}
		want(t, d.Write(1, sector(1)), api.ErrArg)
		want(t, d.Write(0, sector(1)[1:]), api.ErrArg)
		want(t, d.Write(3584, sector(1)), api.ErrRange)
		want(t, d.Zero(-512, 512), api.ErrArg)
		want(t, d.Zero(0, -512), api.ErrArg)
		want(t, d.Zero(math.MaxInt64-511, 512), api.ErrRange)
		want(t, d.Pack(0, rowOf(1, 2), 3), api.ErrArg)
		want(t, d.Pack(0, rowOf(1, 2), -1), api.ErrArg)
		want(t, d.Pack(3584, rowOf(1, 2), 1), api.ErrRange)
		// What is not whole is told ahead of it, as the promise of Pack has it.
		want(t, d.Pack(512, rowOf(1), 1), api.ErrPack)
	})
	// A disk over it, and one below it, go on.
	k.do(1, writes(0, 5))
	k.same()
	// It is dead also where its file is gone.
	want(t, k.s.Remove("a"), api.OK)
	want(t, d.Write(0, sector(9)), api.ErrDead)
	want(t, d.Settle(0), api.ErrDead)
	if _, no := d.Read(0, 512); no != api.ErrNone {
		t.Error(no)
	}
}

// P20.1: of bytes that are none of an image's that is right nothing panics, and all ends: bits of an image's head and tables turned.
func TestAnyBytes(t *testing.T) {
	t.Parallel()
	base := stacked(t, level{9, 4, 70}, level{10, 4, 70})
	base.mixed()
	base = base.again()
	size, _ := base.s.Size("a")
	for at := range size {
		if at > 160 && at%29 != 0 {
			continue
		}
		k := &stack{t: t, s: base.s.Copy(), plains: base.plains}
		b, _ := k.s.Read("a", at, 1)
		want(t, k.s.Write("a", at, []byte{b[0] ^ 1<<(at%8)}), api.OK)
		write, read := opens(k.s, true), opens(k.s, false)
		for _, d := range []*Disk{write, read} {
			d.Read(0, 70*512)
			d.Map(0, 70*512)
			d.Own(3)
		}
		write.Write(5*512, rowOf(1, 2, 3))
		write.Zero(60*512, 10*512)
		write.Pack(20*512, rowOf(1, 2, 3), 1)
		write.Settle(69)
		write.Forget(2)
		read.Read(0, 70*512)
		write.Flush()
	}
}
