package stage_test

import (
	"fmt"
	"math"
	"testing"

	"pantile/api"
	"pantile/dev"
	"pantile/root"
	"pantile/stage"
)

// wantCommit asks that a commit does to the device d what is done to that of h, and that the stage is as finished behind it. It returns the error.
func wantCommit(t *testing.T, what string, s *stage.Stage, h *hand, d *dev.Dev, names uint32, vols uint8, next uint32) api.Errno {
	t.Helper()
	r, fault := h.commit(names, vols, next)
	if got, e := s.Commit(names, vols, next); got != r || e != fault {
		t.Errorf("%s: Commit gives %v, %d, want %v, %d", what, got, e, r, fault)
	}
	wantDevice(t, what, d, h.d)
	wantSame(t, what+", committed", s, h, edges(h.r.Size)...)
	return fault
}

// wantState asks that a device has the root r, with these blocks, and these counts, and no others from First on.
func wantState(t *testing.T, what string, d *dev.Dev, r api.Root, blocks map[uint32]api.Block, counts map[uint32]uint16) {
	t.Helper()
	if m, e := root.Mount(d); m != r || e != api.OK {
		t.Errorf("%s: Mount gives %v, %d, want %v", what, m, e, r)
	}
	s := over(t, d, r)
	for a, b := range blocks {
		wantRead(t, what, s, a, b)
	}
	free := uint32(0)
	for a := first(r.Size); a < r.Size; a++ {
		wantCount(t, what, s, a, counts[a])
		if counts[a] == 0 {
			free++
		}
	}
	if s.Free() != free || s.Room(true) != free {
		t.Errorf("%s: Free %d, Room %d, want %d", what, s.Free(), s.Room(true), free)
	}
}

// P11.4, P11.5: a commit with no fresh block, with one, and with many, each of which is not written until then; the next stage begins with what was committed.
func TestCommit(t *testing.T) {
	for _, many := range []uint32{0, 1, 2, 34} {
		d, r := formatted(t, 64)
		counts, blocks := map[uint32]uint16{}, map[uint32]api.Block{}
		c := d.Copy()
		s, h := both(t, d, r)
		for i := range many {
			h.make(full(byte(i)), false)
			wantNew(t, "many", s, full(byte(i)), false, 6+i)
			counts[6+i], blocks[6+i] = 1, full(byte(i))
		}
		wantSame(t, "ahead of the commit", s, h)
		wantDevice(t, "ahead of the commit", d, c)
		want(t, "Commit", wantCommit(t, "many", s, h, d, 9, 3, 4), api.OK)
		now := api.Root{Gen: 2, Size: 64, Names: 9, Free: 58 - many, Next: 4, Hint: 6 + many, Vols: 3}
		if many != 0 {
			now.Picks = 1
		}
		wantState(t, "many", d, now, blocks, counts)
		d.Crash(nil)
		wantState(t, "crashed", d, now, blocks, counts)
	}
}

// P11.4: the fresh blocks are written in increasing order, not in that in which they were made, and each once; those that were given back are not written.
func TestOrder(t *testing.T) {
	for fuse := range 16 {
		d, r := with(t, 64, map[uint32]uint16{6: 1, 7: 7})
		s, h := both(t, d, from(r, 59, r.Free))
		for i, a := range []uint32{59, 60, 61, 62, 63, 8, 9, 10, 11} {
			h.make(full(byte(i)), false)
			wantNew(t, "around the end", s, full(byte(i)), false, a)
		}
		for _, a := range []uint32{60, 9} {
			h.less(a)
			wantLess(t, "given back", s, a, 0)
		}
		for _, a := range []uint32{63, 8, 63} {
			h.put(a, full(byte(a)))
			want(t, "Put", s.Put(a, full(byte(a))), api.OK)
		}
		if fuse < 15 {
			d.Fuse(fuse)
			h.d.Fuse(fuse)
		}
		e := wantCommit(t, fmt.Sprintf("stopped behind %d", fuse), s, h, d, 6, 1, 2)
		if (e == api.OK) != (fuse >= 12) { // 7 blocks, the tally, the pick, the root, and two flushes
			t.Errorf("stopped behind %d: error %d", fuse, e)
		}
	}
}

// P11.4, P11.5: what is raised and lowered of the old root is in the counts of the next one; a block that nothing leads to any more is taken by the next stage.
func TestOldLowered(t *testing.T) {
	d, r := with(t, 64, map[uint32]uint16{6: 1, 7: 2, 8: 3})
	s, h := both(t, d, from(r, 63, r.Free))
	h.less(6)
	wantLess(t, "lowered", s, 6, 0)
	h.less(7)
	wantLess(t, "lowered", s, 7, 1)
	h.more(8)
	want(t, "More(8)", s.More(8), api.OK)
	h.make(full(1), false)
	wantNew(t, "the last one", s, full(1), false, 63)
	wantCommit(t, "lowered", s, h, d, 7, 1, 2)
	now := api.Root{Gen: 3, Size: 64, Names: 7, Free: 55, Next: 2, Hint: 6, Vols: 1}
	blocks := map[uint32]api.Block{6: old(6), 7: old(7), 8: old(8), 63: full(1)}
	wantState(t, "lowered", d, now, blocks, map[uint32]uint16{7: 1, 8: 4, 63: 1})

	s = over(t, d, now)
	wantNew(t, "the next stage", s, full(2), false, 6)
	wantNew(t, "the next stage", s, full(3), false, 9)
}

// values are numbers for a commit, which make a root of 64 blocks or not.
var values = []struct {
	names uint32
	vols  uint8
	next  uint32
	fault api.Errno
}{
	{0, 0, 1, api.OK},
	{0, 0, math.MaxUint32, api.OK},
	{1, 1, 1, api.OK},
	{6, 16, 1, api.OK},
	{63, 16, math.MaxUint32, api.OK},
	{64, 1, 1, api.ErrArg},
	{65, 1, 1, api.ErrArg},
	{math.MaxUint32, 1, 1, api.ErrArg},
	{6, 17, 1, api.ErrArg},
	{6, 255, 1, api.ErrArg},
	{6, 0, 1, api.ErrArg},
	{0, 1, 1, api.ErrArg},
	{0, 0, 0, api.ErrArg},
	{6, 1, 0, api.ErrArg},
}

// P11.4: which values make a root. With others nothing is changed, and the stage goes on.
func TestValues(t *testing.T) {
	for _, v := range values {
		what := fmt.Sprint(v)
		d, r := with(t, 64, map[uint32]uint16{7: 2})
		s, h := both(t, d, r)
		h.make(full(1), false)
		wantNew(t, what, s, full(1), false, 6)
		h.more(7)
		want(t, "More(7)", s.More(7), api.OK)
		for range 2 {
			want(t, what, wantCommit(t, what, s, h, d, v.names, v.vols, v.next), v.fault)
			if v.fault == api.OK {
				break
			}
			wantSame(t, what, s, h)
		}
		if v.fault == api.OK {
			continue
		}
		h.make(full(2), false)
		wantNew(t, "it goes on", s, full(2), false, 8)
		h.put(6, full(3))
		want(t, "Put(6)", s.Put(6, full(3)), api.OK)
		h.less(8)
		wantLess(t, "it goes on", s, 8, 0)
		wantSame(t, "it goes on", s, h)
		want(t, "it goes on", wantCommit(t, what, s, h, d, 6, 1, 2), api.OK)
		now, _ := h.next(6, 1, 2)
		wantState(t, what, d, now, map[uint32]api.Block{6: full(3), 7: old(7)}, map[uint32]uint16{6: 1, 7: 3})
	}
}

// P11.4: roots with which a stage begins, but which no root can follow.
func TestNoNextRoot(t *testing.T) {
	for what, change := range map[string]func(r *api.Root){
		"the last generation": func(r *api.Root) { r.Gen = math.MaxUint64 },
		"a bit of no pick":    func(r *api.Root) { r.Picks |= 2 },
		"the highest bit":     func(r *api.Root) { r.Picks |= 1 << 31 },
		"a Free above all":    func(r *api.Root) { r.Free = 60 },
		"the greatest Free":   func(r *api.Root) { r.Free = math.MaxUint32 },
	} {
		d, r := formatted(t, 64)
		s, h := both(t, d, but(r, change))
		h.make(full(1), false)
		wantNew(t, what, s, full(1), false, 6)
		for range 2 {
			want(t, what, wantCommit(t, what, s, h, d, 6, 1, 2), api.ErrArg)
			wantSame(t, what, s, h)
		}
		d.Fuse(0)
		h.d.Fuse(0)
		want(t, what, wantCommit(t, what, s, h, d, 6, 1, 2), api.ErrArg)
	}
}

// P11.4: a Free that is too great by one block is that of no root, until a block is taken.
func TestFreeBecomesRight(t *testing.T) {
	d, r := formatted(t, 64)
	s, h := both(t, d, from(r, 6, 59))
	want(t, "too great", wantCommit(t, "too great", s, h, d, 0, 0, 1), api.ErrArg)
	h.make(full(1), false)
	wantNew(t, "too great", s, full(1), false, 6)
	want(t, "one less", wantCommit(t, "one less", s, h, d, 0, 0, 1), api.OK)
	if r, e := root.Mount(d); r.Free != 58 || r.Gen != 2 || e != api.OK {
		t.Errorf("Mount gives %v, %d", r, e)
	}
}

// P11.4: whatever Names, Next and Vols the old root has, the new one has those of the commit.
func TestOldNumbers(t *testing.T) {
	d, r := formatted(t, 64)
	for i, x := range []api.Root{{}, {Gen: 8, Names: 7, Next: 9, Vols: 3}, {Gen: 8, Names: math.MaxUint32, Vols: 255}} {
		x.Size, x.Free, x.Hint = 64, r.Free, 6
		c := d.Copy()
		s, h := both(t, c, x)
		want(t, "Commit", wantCommit(t, fmt.Sprint(i), s, h, c, 10, 11, 12), api.OK)
		x.Gen, x.Names, x.Next, x.Vols = x.Gen+1, 10, 12, 11
		if m, e := root.Mount(c); m != x || e != api.OK {
			t.Errorf("Mount gives %v, %d, want %v", m, e, x)
		}
	}
}

// P11.1 to P11.4: a stage that is finished returns ErrState for each call, whatever it is given, and still has its root.
func TestFinished(t *testing.T) {
	for _, fuse := range []int{0, 1, 3, 4, 100} {
		d, r := formatted(t, 64)
		s, h := both(t, d, r)
		h.make(full(1), false)
		wantNew(t, "fresh", s, full(1), false, 6)
		d.Fuse(fuse)
		h.d.Fuse(fuse)
		fault := api.ErrDown
		if fuse == 100 {
			fault = api.OK
		}
		what := fmt.Sprintf("stopped behind %d", fuse)
		want(t, what, wantCommit(t, what, s, h, d, 6, 1, 2), fault)
		for range 2 {
			c := d.Copy()
			for _, a := range edges(64) {
				wantAll(t, what, s, a, api.ErrState)
			}
			if s.Root() != r {
				t.Errorf("%s: Root gives %v", what, s.Root())
			}
			wantDevice(t, what, d, c)
			d.Crash(nil) // the device is up again, and the stage is finished all the same
		}
	}
}

// P11.4: on a device that is down ahead of it a commit returns ErrDown, and the stage is finished; ErrArg comes ahead of that.
func TestDown(t *testing.T) {
	d, r := formatted(t, 64)
	d.Fuse(0)
	d.Flush()
	s, h := both(t, d, r)
	h.make(full(1), false)
	wantNew(t, "down", s, full(1), false, 6)
	for range 2 {
		want(t, "down", wantCommit(t, "down", s, h, d, 6, 0, 2), api.ErrArg)
		wantSame(t, "down", s, h)
	}
	want(t, "down", wantCommit(t, "down", s, h, d, 6, 1, 2), api.ErrDown)
	wantAll(t, "down", s, 6, api.ErrState)
	d.Crash(nil)
	wantAll(t, "crashed", s, 6, api.ErrState)
	wantState(t, "crashed", d, r, nil, nil)
}

// P11.4: a stage with which a device was down goes on, when nothing was committed, behind the crash.
func TestUpAgain(t *testing.T) {
	d, r := formatted(t, 64)
	s := over(t, d, r)
	wantNew(t, "up", s, full(1), false, 6)
	d.Fuse(0)
	d.Flush()
	wantNew(t, "down", s, full(2), false, 7)
	d.Crash(nil)
	now, e := s.Commit(6, 1, 2)
	want(t, "up again", e, api.OK)
	wantState(t, "up again", d, now, map[uint32]api.Block{6: full(1), 7: full(2)}, map[uint32]uint16{6: 1, 7: 1})
}

// P11.4: writes that are pending ahead of a commit stay ahead of it.
func TestPendingAhead(t *testing.T) {
	d, r := formatted(t, 64)
	d.Write(50, full(9))
	d.Write(6, full(9))
	s, h := both(t, d, r)
	h.make(full(1), false)
	wantNew(t, "pending", s, full(1), false, 6)
	want(t, "pending", wantCommit(t, "pending", s, h, d, 6, 1, 2), api.OK)
	wantState(t, "pending", d, api.Root{Gen: 2, Size: 64, Picks: 1, Names: 6, Free: 57, Next: 2, Hint: 7, Vols: 1}, map[uint32]api.Block{6: full(1), 50: full(9)}, map[uint32]uint16{6: 1})
}

// P11.4: a commit of a stage behind that of another one over the same root is a commit, too: the device's root is the one of the second, with its blocks and counts, as if the first one had not been.
func TestTwoStages(t *testing.T) {
	d, r := with(t, 200, map[uint32]uint16{20: 2, 21: 1, 150: 1})
	x, y := over(t, d, r), over(t, d, r)
	h := byHand(t, d, r)
	wantNew(t, "the first stage", x, full(1), false, 12)
	wantNew(t, "the first stage", x, full(2), false, 13)
	wantLess(t, "the first stage", x, 150, 0)
	h.make(full(3), false)
	wantNew(t, "the second stage", y, full(3), false, 12)
	h.less(21)
	wantLess(t, "the second stage", y, 21, 0)
	wantSame(t, "the second stage", y, h)

	one, e := x.Commit(12, 1, 2)
	want(t, "the first commit", e, api.OK)
	wantState(t, "the first commit", d, one, map[uint32]api.Block{12: full(1), 13: full(2), 20: old(20), 21: old(21)}, map[uint32]uint16{12: 1, 13: 1, 20: 2, 21: 1})
	wantRead(t, "fresh of the second stage", y, 12, full(3))
	wantRead(t, "what the first one wrote", y, 13, full(2))
	wantCount(t, "of the old root", y, 13, 0)
	wantCount(t, "of the old root", y, 150, 1)

	two, e := y.Commit(20, 2, 3)
	want(t, "the second commit", e, api.OK)
	if r, ok := h.next(20, 2, 3); two != r || !ok || two.Gen != one.Gen {
		t.Errorf("Commit gives %v, want %v", two, r)
	}
	wantState(t, "the second commit", d, two, map[uint32]api.Block{12: full(3), 20: old(20), 21: old(21), 150: old(150)}, map[uint32]uint16{12: 1, 20: 2, 150: 1})
	wantAll(t, "the first stage", x, 12, api.ErrState)
}

// P11.5: two stages over one root do not see each other.
func TestApart(t *testing.T) {
	d, r := formatted(t, 64)
	x, y := over(t, d, r), over(t, d, r)
	wantNew(t, "the one", x, full(1), false, 6)
	if y.Fresh(6) || y.Free() != 58 {
		t.Errorf("Fresh is %t, Free %d", y.Fresh(6), y.Free())
	}
	wantRead(t, "the other one", y, 6, api.Block{})
	want(t, "Put", y.Put(6, full(2)), api.ErrState)
	wantNew(t, "the other one", y, full(3), false, 6)
	wantRead(t, "the one", x, 6, full(1))
	wantLess(t, "the other one", y, 6, 0)
	wantCount(t, "the one", x, 6, 1)
}
