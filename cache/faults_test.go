package cache

import (
	"fmt"
	"strings"
	"testing"

	"palimpsest/api"
)

// scripts whose last word takes several steps: a Back, a Flush, a bringing in.
func longer() []string {
	return []string{
		"W0a W1b A01 B0",
		"W0a W1b W2c A01 A12 B0",
		"W0a W1b W2c W3d A01 A02 A23 B0",
		"W0a W1b B1 A01 W1c B0",
		"W0a W1b W2c F",
		"W3a W1b W2c A31 A23 F",
		"W0a W1b A01 W2c F",
		"R0 F",
		"W0a W1b W2c W3d R4",
		"W0a W1b W2c W3d A01 A12 A23 R4",
		"W0a W1b W2c W3d A03 A13 A23 W4e",
		"W0a W1b W2c W3d A01 N4",
	}
}

// P14.3: a step that fails at each place of a call: its error is told, what was done ahead of it stays done, the page stays dirty, the counts tell what went well; asked again, the rest is done.
func TestFaultAtEachPlace(t *testing.T) {
	for _, bits := range []int{9, 10} {
		for _, script := range longer() {
			steps := strings.Fields(stepped(t, bits, 4, script))
			for k := range steps {
				for _, fate := range []api.Fate{{Kind: api.FateFail}, {Kind: api.FateFail, Keep: 1}, {Kind: api.FateFull, Keep: 2}, {Kind: api.FateFull, Keep: -1}} {
					faultAt(t, bits, script, steps, k, fate)
				}
			}
		}
	}
}

// faultAt lets the step k of a script's last word fail.
func faultAt(t *testing.T, bits int, script string, steps []string, k int, fate api.Fate) {
	t.Helper()
	words := strings.Fields(script)
	ahead, last := strings.Join(words[:len(words)-1], " "), words[len(words)-1]
	c, w := both(t, bits, 4)
	done(t, c, ahead)
	done(t, w, ahead)
	was := c.Counts()
	fates := append(make([]api.Fate, k), fate)
	c.store.Feed(fates...)
	w.s.Feed(fates...)
	said := fmt.Sprintf("Bits %d, %s, %v at step %d", bits, script, fate, k)
	should := map[api.FateKind]api.Errno{api.FateFail: api.ErrDisk, api.FateFull: api.ErrFull}[fate.Kind]
	if no := do(c, last); no != should {
		t.Fatalf("%s: %v", said, no)
	}
	want(t, do(w, last), should)
	alike(t, c, w, said)
	lean(t, c, w, said)
	backs, flushes := 0, 0
	for _, step := range steps[:k] {
		if step == "f" {
			flushes++
			continue
		}
		backs++
	}
	if now := c.Counts(); now.Backs-was.Backs != backs || now.Flushes-was.Flushes != flushes || now.Loads != was.Loads || now.Hits != was.Hits {
		t.Fatalf("%s: counts %v, before %v", said, now, was)
	}
	// Whoever's write failed is dirty, and is not pending for that; those that were written are not dirty.
	for i, step := range steps[:k+1] {
		x, _ := c.State(int64(step[0] - '0'))
		if step != "f" && x.Dirty != (i == k) {
			t.Fatalf("%s: page %s stands %v", said, step, x)
		}
	}
	retried(t, c, bits, script, last)
}

// retried asks again, and holds all pages against those of a cache whose steps all went well.
func retried(t *testing.T, c *Cache, bits int, script, last string) {
	t.Helper()
	want(t, do(c, last), api.OK)
	want(t, c.Flush(), api.OK)
	_, good := open(t, bits, 4)
	done(t, good, script)
	want(t, good.Flush(), api.OK)
	if !c.store.Same(good.store) {
		t.Fatalf("%s: asked again it is not as it should be", script)
	}
}

// P14.3: a flush that fails in part leaves all pages pending, and those that wait waiting.
func TestFlushFailsInPart(t *testing.T) {
	s, c := open(t, 9, 4)
	done(t, c, "W0 W1 W2 A01 A02 B1 B2")
	want(t, s.Feed(api.Fate{Kind: api.FateFail, Keep: 1}), api.OK)
	want(t, c.Back(0), api.ErrDisk)
	stands(t, c, "0dk<12 1pk 2pk")
	if s.Pending() != 1 {
		t.Error(s.Pending())
	}
	want(t, s.Feed(api.Fate{Kind: api.FateFull, Keep: 9}), api.OK)
	want(t, c.Flush(), api.ErrFull)
	stands(t, c, "0dk<12 1pk 2pk")
	done(t, c, "B0")
	stands(t, c, "0pk 1k 2k")
	counted(t, c, 0, 3, 3, 1)
}

// P14.3, P14.5: a write that fails in part leaves the page as it was changed, however much of it is in the file; dropped, it is as the file has it.
func TestWriteFailsInPart(t *testing.T) {
	s, c := open(t, 10, 4)
	done(t, c, "W0x W1y A01")
	want(t, s.Feed(api.Fate{Kind: api.FateFail, Keep: 1}), api.OK)
	want(t, c.Back(1), api.ErrDisk)
	stands(t, c, "0dk<1 1dk")
	reads(t, c, 1, strings.Repeat("y", 1024))
	if b, _ := s.Read("f", 1024, 1024); string(b) != strings.Repeat("y", 512)+strings.Repeat("D", 512) {
		t.Errorf("%q", b)
	}
	done(t, c, "D1")
	stands(t, c, "0dk")
	reads(t, c, 1, strings.Repeat("y", 512)+strings.Repeat("D", 512))
	done(t, c, "F")
	if s.Pending() != 0 {
		t.Error(s.Pending())
	}
}
