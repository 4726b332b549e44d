package stage_test

import (
	"testing"

	"pantile/api"
	"pantile/dev"
	"pantile/stage"
	"pantile/tally"
)

// spoil writes noise over both blocks of a tally.
func (n *noise) spoil(d *dev.Dev, picks, index uint32) {
	at := 2 + 2*picks + 2*index
	d.Write(at, n.block())
	d.Write(at+1, n.block())
	d.Flush()
}

// spoilPick writes noise over both blocks of a pick.
func (n *noise) spoilPick(d *dev.Dev, index uint32) {
	d.Write(2+2*index, n.block())
	d.Write(3+2*index, n.block())
	d.Flush()
}

// wantBad asks that a block whose page is not valid can be read, but not counted.
func wantBad(t *testing.T, what string, s *stage.Stage, a uint32, b api.Block) {
	t.Helper()
	wantRead(t, what, s, a, b)
	want(t, what+": Put", s.Put(a, full(1)), api.ErrState)
	want(t, what+": More", s.More(a), api.ErrBad)
	wantNoLess(t, what, s, a, api.ErrBad)
	if c, e := s.Count(a); c != 0 || e != api.ErrBad || s.Fresh(a) {
		t.Errorf("%s: Count(%d) gives %d, %d, Fresh is %t", what, a, c, e, s.Fresh(a))
	}
}

// P11.1 to P11.4: a tally that is not valid: blocks of it are not taken nor counted, but can be read; the others are not concerned, and a commit does not need it.
func TestBadTally(t *testing.T) {
	n := noise(2)
	d, r := with(t, 200, map[uint32]uint16{130: 3}) // First 12, tallies from 0, 64, 128, 192 on
	n.spoil(d, 1, 1)
	s, h := both(t, d, from(r, 63, r.Free))
	wantSame(t, "at first", s, h)
	a, _ := h.make(full(1), false)
	wantNew(t, "ahead of it", s, full(1), false, a)
	for range 2 {
		h.make(full(2), false)
		wantNone(t, "at its first block", s, false, api.ErrBad)
		wantNone(t, "at its first block", s, true, api.ErrBad)
	}
	for _, a := range []uint32{64, 100, 127} {
		wantBad(t, "of it", s, a, old(a))
	}
	h.more(130)
	want(t, "More(130)", s.More(130), api.OK)
	wantSame(t, "in the end", s, h)
	wantCommit(t, "in the end", s, h, d, 63, 1, 2)

	r, _ = h.next(63, 1, 2)
	s = over(t, d, r)
	wantCount(t, "the next root", s, 63, 1)
	wantCount(t, "the next root", s, 130, 4)
	wantBad(t, "the next root", s, 64, old(64))
}

// P11.1 to P11.3: a tally of another Index is not valid.
func TestOtherIndex(t *testing.T) {
	d, r := with(t, 128, nil)
	x := api.Tally{Index: 0}
	x.Counts[9] = 1
	b, _ := tally.Put(x)
	d.Write(6, b)
	s := over(t, d, from(r, 64, r.Free))
	wantNone(t, "a tally of another Index", s, true, api.ErrBad)
	wantBad(t, "a tally of another Index", s, 70, old(70))
}

// P11.1 to P11.4: a pick that is not valid makes all its blocks bad; those of the other pick are taken and committed.
func TestBadPick(t *testing.T) {
	n := noise(3)
	const size, edge = 70000, 65536
	d, r := formatted(t, size)
	n.spoilPick(d, 1)
	s, h := both(t, d, from(r, edge-1, r.Free))
	h.make(full(1), false)
	wantNew(t, "ahead of it", s, full(1), false, edge-1)
	wantNone(t, "at its first block", s, false, api.ErrBad)
	wantNone(t, "at its first block", s, true, api.ErrBad)
	wantBad(t, "of it", s, edge, api.Block{})
	wantBad(t, "of it", s, size-1, api.Block{})
	wantSame(t, "in the end", s, h, edges(size)...)
	wantCommit(t, "in the end", s, h, d, 9, 1, 2)
}

// P11.2, P11.4: ErrSpace of a room of 0 comes ahead of ErrBad; no page is needed for a commit in which nothing is changed.
func TestNothingRead(t *testing.T) {
	n := noise(4)
	d, r := formatted(t, 64)
	n.spoil(d, 1, 0)
	n.spoilPick(d, 0)
	for free, faults := range map[uint32][2]api.Errno{0: {api.ErrSpace, api.ErrSpace}, 24: {api.ErrSpace, api.ErrBad}, 25: {api.ErrBad, api.ErrBad}} {
		c := d.Copy()
		s, h := both(t, c, from(r, 6, free))
		wantNone(t, "bad", s, false, faults[0])
		wantNone(t, "bad", s, true, faults[1])
		wantSame(t, "bad", s, h)
		wantCommit(t, "bad", s, h, c, 0, 0, 1)
	}
}

// P11.4, P11.5: pages that the stage has read are not read again for its commit, though they are written over meanwhile.
func TestSpoiledBehind(t *testing.T) {
	n := noise(5)
	d, r := with(t, 128, map[uint32]uint16{20: 2})
	s, h := both(t, d, r)
	h.make(full(1), false)
	wantNew(t, "taken", s, full(1), false, 8)
	n.spoil(d, 1, 0)
	n.spoilPick(d, 0)
	c := noise(5)
	c.spoil(h.d, 1, 0)
	c.spoilPick(h.d, 0)
	wantLess(t, "read before", s, 20, 1)
	h.less(20)
	wantCommit(t, "spoiled", s, h, d, 8, 1, 2)
	r, _ = h.next(8, 1, 2)
	s = over(t, d, r)
	wantCount(t, "the next root", s, 8, 1)
	wantCount(t, "the next root", s, 20, 1)
}
