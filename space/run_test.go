package space_test

import (
	"fmt"
	"math"
	"testing"

	"pantile/api"
	"pantile/count"
	"pantile/dev"
	"pantile/root"
	"pantile/space"
)

// counts are any ones of the blocks of a device, few or many, often at an edge.
func (n *noise) counts(size uint32) map[uint32]uint16 {
	l := map[uint32]uint16{}
	many := n.below(9)
	for a := first(size); a < size; a++ {
		if n.below(8) >= many {
			continue
		}
		switch n.below(4) {
		case 0:
			l[a] = 65535 - uint16(n.below(2))
		case 1:
			l[a] = uint16(n.next())
		default:
			l[a] = uint16(n.below(3))
		}
	}
	return l
}

// root is that of a device with another Hint, and sometimes with a wrong Free.
func (n *noise) root(r api.Root) api.Root {
	r.Hint = first(r.Size) + uint32(n.below(int(r.Size-first(r.Size))))
	switch n.below(6) {
	case 0:
		r.Free = uint32(n.below(60))
	case 1:
		r.Free += uint32(n.below(60))
	}
	return r
}

// any is any block, often one of a few near the Hint, rarely one that has no count.
func (n *noise) any(h *hand) uint32 {
	switch n.below(12) {
	case 0:
		return uint32(n.below(int(h.r.Size) + 8))
	case 1:
		return []uint32{0, h.x.First() - 1, h.x.First(), h.r.Size - 1, h.r.Size, math.MaxUint32}[n.below(6)]
	}
	return h.hint - uint32(n.below(6))
}

// step does one thing to a space, and the same by hand.
func (n *noise) step(t *testing.T, s *space.Space, h *hand) {
	t.Helper()
	switch n.below(5) {
	case 0, 1:
		spare := n.below(3) == 0
		block, fault := h.take(spare)
		if a, e := s.Take(spare); a != block || e != fault {
			t.Errorf("Take(%t) gives %d, %d, want %d, %d", spare, a, e, block, fault)
		}
	case 2:
		a := n.any(h)
		want(t, fmt.Sprintf("More(%d)", a), s.More(a), h.more(a))
	default:
		a := n.any(h)
		c, fault := h.less(a)
		if got, e := s.Less(a); got != c || e != fault {
			t.Errorf("Less(%d) gives %d, %d, want %d, %d", a, got, e, c, fault)
		}
	}
}

// P10.1 to P10.3: any calls on spaces over devices with any counts, with roots that are right or not, and with tallies that are not valid.
func TestAnyCalls(t *testing.T) {
	n := noise(8)
	for _, size := range []uint32{64, 65, 66, 127, 128, 129, 200, 300} {
		for range 40 {
			d, r := with(t, size, n.counts(size))
			if n.below(4) == 0 {
				n.spoil(d, 1, uint32(n.below(int(size/64))))
			}
			s, h := both(t, d, n.root(r))
			wantSame(t, "at first", s, h)
			for range n.below(300) {
				n.step(t, s, h)
				wantSame(t, "behind a step", s, h, h.hint, h.hint-1, n.any(h))
			}
			wantSame(t, "at last", s, h)
			if t.Failed() {
				t.Fatalf("with %d blocks", size)
			}
		}
	}
}

// R4: the same calls on a space over another table of the same device give the same, and the first table is not concerned.
func TestTwoTables(t *testing.T) {
	n := noise(9)
	d, r := with(t, 200, n.counts(200))
	x, y := table(t, d, r), table(t, d, r)
	a, b := over(t, x, r), over(t, y, r)
	for range 10 {
		a.Take(true)
	}
	wantNumbers(t, "the other one", b, r.Free, r.Free, r.Hint)
	for range 10 {
		b.Take(true)
	}
	wantNumbers(t, "the same calls", b, a.Free(), a.Room(true), a.Hint())
	l, p, _ := x.Seal()
	k, q, _ := y.Seal()
	if p != q || len(l) != len(k) {
		t.Errorf("the seals give %d and %d puts, Picks %d and %d", len(l), len(k), p, q)
	}
	if d.Pending() != 0 {
		t.Errorf("%d writes are pending", d.Pending())
	}
}

// wantExact asks that the numbers of a space are those of the blocks with the count 0, and of those with the old count 0 too.
func wantExact(t *testing.T, what string, s *space.Space, x *count.Table) {
	t.Helper()
	var free, room uint32
	for a := x.First(); a < x.Size(); a++ {
		old, _ := x.Old(a)
		if n, _ := x.Get(a); n == 0 {
			free++
			if old == 0 {
				room++
			}
		}
	}
	wantNumbers(t, what, s, free, room, s.Hint())
}

// P10.4: with the right Free a block is taken as long as there is room, none twice, and none whose old count is not 0.
func TestTakeAll(t *testing.T) {
	n := noise(10)
	for _, size := range []uint32{64, 65, 128, 200, 1000} {
		for range 10 {
			d, r := with(t, size, n.counts(size))
			x := table(t, d, r)
			r.Hint = n.root(r).Hint
			s := over(t, x, r)
			wantExact(t, "at first", s, x)
			taken := map[uint32]bool{}
			for s.Room(true) != 0 {
				a, e := s.Take(s.Room(false) == 0)
				if old, _ := x.Old(a); e != api.OK || old != 0 || taken[a] {
					t.Fatalf("Take gives %d, %d, with the old count %d; taken before: %t", a, e, old, taken[a])
				}
				taken[a] = true
			}
			if len(taken) != int(r.Free) {
				t.Errorf("%d blocks are taken, want %d", len(taken), r.Free)
			}
			wantExact(t, "all are taken", s, x)
			wantNone(t, "all are taken", s, true, api.ErrSpace)
		}
	}
}

// P10.4: the numbers remain exact whatever is taken, raised and lowered.
func TestExact(t *testing.T) {
	n := noise(11)
	for _, size := range []uint32{64, 65, 200} {
		for range 20 {
			d, r := with(t, size, n.counts(size))
			r.Hint = n.root(r).Hint
			x := table(t, d, r)
			s, h := over(t, x, r), byHand(t, d, r)
			for range 100 {
				n.step(t, s, h)
				wantExact(t, "behind a step", s, x)
			}
		}
	}
}

// P10.4: the greatest device, taken as a whole, and given back.
func TestGreatest(t *testing.T) {
	const size = 1 << 20
	d, r := formatted(t, size)
	f := first(size)
	s := over(t, table(t, d, r), from(r, size-3, r.Free))
	for i := range size - f {
		if a, e := s.Take(i >= size-f-24); a != f+(size-3-f+i)%(size-f) || e != api.OK {
			t.Fatalf("Take %d gives %d, %d", i, a, e)
		}
	}
	wantNumbers(t, "all are taken", s, 0, 0, size-3)
	wantNone(t, "all are taken", s, true, api.ErrSpace)
	for _, a := range []uint32{size - 4, 65535, f} {
		wantLess(t, "given back", s, a, 0)
		wantTake(t, "the one that is available", s, true, a)
	}
}

// committed is the root that a space leads to, with what its table seals written.
func committed(t *testing.T, d *dev.Dev, x *count.Table, s *space.Space, r api.Root) api.Root {
	t.Helper()
	l, picks, e := x.Seal()
	want(t, "Seal", e, api.OK)
	r.Gen, r.Picks, r.Free, r.Hint = r.Gen+1, picks, s.Free(), s.Hint()
	want(t, "Commit", root.Commit(d, l, r), api.OK)
	return r
}

// P10.4: a seal between two takes concerns neither, and a root that is committed with what was sealed has the right Free.
func TestSealBetween(t *testing.T) {
	d, r := with(t, 64, map[uint32]uint16{7: 1})
	x := table(t, d, r)
	s := over(t, x, r)
	wantTake(t, "before the seal", s, false, 6)
	wantLess(t, "before the seal", s, 7, 0)
	first := committed(t, d, x, s, r)
	wantNumbers(t, "behind the seal", s, 57, 56, 7)
	wantTake(t, "behind the seal", s, false, 8)
	wantLess(t, "behind the seal", s, 6, 0)
	wantNumbers(t, "behind the seal", s, 57, 56, 9)

	y := table(t, d, first)
	next := over(t, y, first)
	wantExact(t, "the next root", next, y)
	wantNumbers(t, "the next root", next, 57, 57, 7)
	wantTake(t, "what the root before it reached", next, false, 7)
	wantLess(t, "what was taken before it", next, 6, 0)
	wantNumbers(t, "the next root", next, 57, 56, 8)
}

// P10.4: one root after the other, each with the Free and the Hint of the space before it.
func TestRoots(t *testing.T) {
	n := noise(12)
	for _, size := range []uint32{64, 150} {
		d, r := formatted(t, size)
		for range 60 {
			x := table(t, d, r)
			s, h := over(t, x, r), byHand(t, d, r)
			for range n.below(40) {
				n.step(t, s, h)
			}
			wantExact(t, "before a commit", s, x)
			wantSame(t, "before a commit", s, h)
			r = committed(t, d, x, s, r)
		}
	}
}
