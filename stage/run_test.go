package stage_test

import (
	"fmt"
	"maps"
	"testing"

	"pantile/api"
	"pantile/dev"
	"pantile/root"
	"pantile/stage"
)

// counts are any ones of the blocks of a device, few or many, often at an edge.
func (n *noise) counts(size uint32) map[uint32]uint16 {
	l := map[uint32]uint16{}
	many := n.below(9)
	for a := first(size); a < size; a++ {
		if n.below(8) >= many {
			continue
		}
		switch n.below(4) {
		case 0:
			l[a] = 65535 - uint16(n.below(2))
		case 1:
			l[a] = uint16(n.next())
		default:
			l[a] = uint16(n.below(3))
		}
	}
	return l
}

// hint is any block that is allocated.
func (n *noise) hint(size uint32) uint32 {
	return first(size) + uint32(n.below(int(size-first(size))))
}

// any is any block, often one of a few near the Hint, rarely one that is at an edge.
func (n *noise) any(h *hand) uint32 {
	switch n.below(12) {
	case 0:
		return uint32(n.below(int(h.r.Size) + 8))
	case 1:
		l := edges(h.r.Size)
		return l[n.below(len(l))]
	}
	return h.s.Hint() - uint32(n.below(8))
}

// step does one thing to a stage, and the same by hand.
func (n *noise) step(t *testing.T, s *stage.Stage, h *hand) {
	t.Helper()
	a, b := n.any(h), n.block()
	switch n.below(8) {
	case 0, 1, 2:
		spare := n.below(3) == 0
		block, fault := h.make(b, spare)
		if a, e := s.New(b, spare); a != block || e != fault {
			t.Errorf("New gives %d, %d, want %d, %d", a, e, block, fault)
		}
	case 3, 4:
		want(t, fmt.Sprintf("Put(%d)", a), s.Put(a, b), h.put(a, b))
	case 5:
		want(t, fmt.Sprintf("More(%d)", a), s.More(a), h.more(a))
	default:
		c, fault := h.less(a)
		if got, e := s.Less(a); got != c || e != fault {
			t.Errorf("Less(%d) gives %d, %d, want %d, %d", a, got, e, c, fault)
		}
	}
	wantSame(t, "behind a step", s, h, a, h.s.Hint(), h.s.Hint()-1)
}

// P11.1 to P11.5: any calls on stages, one after the other, over devices with any counts; nothing is written until a commit, and each commit writes what it does by hand. Some of the devices have a tally that is not valid.
func TestAnyCalls(t *testing.T) {
	n := noise(10)
	faults := map[api.Errno]int{}
	for _, size := range []uint32{64, 65, 127, 128, 129, 200} {
		for range 12 {
			d, r := with(t, size, n.counts(size))
			r.Hint = n.hint(size)
			if n.below(4) == 0 {
				n.spoil(d, 1, uint32(n.below(int(size/64))))
			}
			for range 6 {
				s, h := both(t, d, r)
				c := d.Copy()
				for range n.below(60) {
					n.step(t, s, h)
				}
				wantSame(t, "at last", s, h)
				wantDevice(t, "at last", d, c)
				if n.below(4) == 0 {
					k := n.below(20)
					d.Fuse(k)
					h.d.Fuse(k)
				}
				names, vols := uint32(n.below(int(size)+2)), uint8(n.below(18))
				faults[wantCommit(t, "any", s, h, d, names, vols, uint32(n.below(9)))]++
				d.Crash(nil)
				r, _ = root.Mount(d)
			}
			if t.Failed() {
				t.Fatalf("with %d blocks", size)
			}
		}
	}
	for _, e := range []api.Errno{api.OK, api.ErrArg, api.ErrDown} {
		if faults[e] < 20 {
			t.Errorf("%d commits with the error %d: too few to tell", faults[e], e)
		}
	}
}

// counted are the counts of a root that are not 0.
func counted(t *testing.T, d *dev.Dev, r api.Root) map[uint32]uint16 {
	t.Helper()
	l, x := map[uint32]uint16{}, table(t, d, r)
	for a := x.First(); a < x.Size(); a++ {
		if c, e := x.Get(a); e != api.OK {
			t.Fatalf("Get(%d) gives %d", a, e)
		} else if c != 0 {
			l[a] = c
		}
	}
	return l
}

// P11.5: one stage after the other, with crashes between them: each begins with the blocks and the counts with which the one before it ended.
func TestManyStages(t *testing.T) {
	n := noise(11)
	for _, size := range []uint32{64, 200} {
		d, r := with(t, size, n.counts(size))
		counts, blocks := counted(t, d, r), map[uint32]api.Block{}
		for a := range counts {
			blocks[a] = old(a)
		}
		for range 60 {
			s, h := both(t, d, r)
			for range n.below(30) {
				n.step(t, s, h)
			}
			for a := first(size); a < size; a++ {
				c, _ := s.Count(a)
				b, _ := s.Read(a)
				counts[a], blocks[a] = c, b
				if c == 0 {
					delete(counts, a)
					delete(blocks, a)
				}
			}
			now, e := s.Commit(first(size), 1, 2)
			want(t, "Commit", e, api.OK)
			if got := counted(t, d, now); !maps.Equal(got, counts) {
				t.Errorf("the new root has the counts %v, want %v", got, counts)
			}
			d.Crash(nil)
			wantState(t, "one after the other", d, now, blocks, counts)
			r = now
		}
	}
}

// P11.4, P11.5: a great device, whose pages are of two picks, with fresh blocks of both, and of many tallies.
func TestGreat(t *testing.T) {
	const size, edge = 70000, 65536
	d, r := formatted(t, size)
	s, h := both(t, d, from(r, edge-40, r.Free))
	for i := range 200 {
		b := full(byte(i))
		a, _ := h.make(b, false)
		wantNew(t, "great", s, b, false, a)
	}
	for a := uint32(edge - 3); a < edge+3; a++ {
		h.more(a)
		want(t, "More", s.More(a), api.OK)
	}
	h.less(edge - 40)
	wantLess(t, "great", s, edge-40, 0)
	want(t, "Commit", wantCommit(t, "great", s, h, d, size-1, 16, 9), api.OK)
	now, _ := h.next(size-1, 16, 9)
	if now.Picks != 3 || now.Free != size-first(size)-199 {
		t.Errorf("the new root is %v", now)
	}
	s = over(t, d, now)
	for a := uint32(edge - 41); a < edge+161; a++ {
		var c uint16
		if a > edge-41 && a < edge+160 && a != edge-40 {
			c = 1
			wantRead(t, "great", s, a, full(byte(a-edge+40)))
		}
		if a >= edge-3 && a < edge+3 {
			c = 2
		}
		wantCount(t, "great", s, a, c)
	}
}

// P11.5: the greatest device, at its edges.
func TestGreatest(t *testing.T) {
	const size = 1 << 20
	d, r := formatted(t, size)
	s := over(t, d, from(r, size-1, r.Free))
	wantNew(t, "the last one", s, full(1), false, size-1)
	wantNew(t, "the first one", s, full(2), false, 32802)
	now, e := s.Commit(size-1, 1, 2)
	if now != (api.Root{Gen: 2, Size: size, Picks: 1 | 1<<15, Names: size - 1, Free: size - 32804, Next: 2, Hint: 32803, Vols: 1}) || e != api.OK {
		t.Fatalf("Commit gives %v, %d", now, e)
	}
	s = over(t, d, now)
	wantRead(t, "the last one", s, size-1, full(1))
	wantRead(t, "the first one", s, 32802, full(2))
	wantCount(t, "the last one", s, size-1, 1)
	wantCount(t, "the first one", s, 32802, 1)
	wantCount(t, "another one", s, 32803, 0)
}
