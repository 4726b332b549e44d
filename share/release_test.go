package share_test

import (
	"fmt"
	"maps"
	"testing"

	"pantile/api"
	"pantile/dev"
	"pantile/share"
	"pantile/stage"
	"pantile/tally"
)

// chain is a disk with a node of each level and two leaves: 9 -> 8 -> 7 -> 6, 10; 10 is there twice.
func chain(counts ...uint16) disk {
	k := disk{map[uint32]api.Block{6: full(6), 7: nodeOf(1, 6, 10, 10), 8: nodeOf(2, 0, 7), 9: nodeOf(3, 0, 0, 8), 10: full(10)}, map[uint32]uint16{}}
	for i, c := range counts {
		k.counts[6+uint32(i)] = c
	}
	return k
}

// P12.2, P12.3: a release goes down as far as the counts become 0, and no further.
func TestReleaseDown(t *testing.T) {
	for _, x := range []struct {
		before, after []uint16 // of 6 to 10
	}{
		{[]uint16{1, 1, 1, 1, 2}, []uint16{0, 0, 0, 0, 0}},
		{[]uint16{2, 1, 1, 1, 3}, []uint16{1, 0, 0, 0, 1}},
		{[]uint16{1, 2, 1, 1, 2}, []uint16{1, 1, 0, 0, 2}},
		{[]uint16{1, 1, 2, 1, 2}, []uint16{1, 1, 1, 0, 2}},
		{[]uint16{1, 1, 1, 2, 2}, []uint16{1, 1, 1, 1, 2}},
		{[]uint16{1, 65535, 1, 1, 2}, []uint16{1, 65534, 0, 0, 2}},
		{[]uint16{65535, 1, 1, 1, 65535}, []uint16{65534, 0, 0, 0, 65533}},
	} {
		k := chain(x.before...)
		s, h := both(t, 64, 6, k)
		what := fmt.Sprint(x.before)
		wantRelease(t, what, s, 9, 3, api.OK)
		wantCounts(t, what, s, append(x.after, 0)...)
		h.release(9, 3)
		wantSame(t, what, s, h)

		// The same, made by the stage.
		s, h = both(t, 64, 6, disk{})
		for a := uint32(6); a < 11; a++ {
			wantBoth(t, s, h, k.blocks[a], false)
			for range min(x.before[a-6], 9) - 1 {
				want(t, what, share.Retain(s, a), h.more(a))
			}
		}
		h.release(9, 3)
		wantRelease(t, what+", fresh", s, 9, 3, api.OK)
		wantSame(t, what+", fresh", s, h)
	}
}

// P12.2, P12.3: each level of a tree can be owned and released with the levels below it; the last release leaves nothing.
func TestLevels(t *testing.T) {
	s, h := both(t, 64, 20, chain(1, 1, 1, 1, 2))
	for level := range uint8(4) {
		a := uint32(6) + uint32(level)
		for range 3 {
			want(t, "Retain", share.Retain(s, a), h.more(a))
			wantLikeHand(t, "a level", s, h, a, level)
		}
	}
	for _, a := range []uint32{9, 9, 9, 9, 20, 21, 22, 23} {
		for level := range uint8(4) {
			if level > 0 || h.now[a] > 0 && a < 30 {
				wantRelease(t, "any", s, a, level, h.release(a, level))
			}
			wantSame(t, "any", s, h)
		}
	}
}

// wantDone asks for an error, and for the counts that are left of what was done up to it.
func wantDone(t *testing.T, what string, s *stage.Stage, fault, e api.Errno, counts ...uint16) {
	t.Helper()
	want(t, what, e, fault)
	wantCounts(t, what, s, counts...)
}

// P12.2: a pointer that leads to no block of the level below: the release stops there, and what was done up to that point stays.
func TestReleaseBroken(t *testing.T) {
	for _, x := range []struct {
		what    string
		pointer uint32
		level   uint8
		fault   api.Errno
	}{
		{"no node", 9, 2, api.ErrBad},
		{"a node of its own level", 7, 2, api.ErrBad},
		{"a node of a higher level", 8, 2, api.ErrBad},
		{"a node without a count", 11, 2, api.ErrState},
		{"no node, without a count", 12, 2, api.ErrBad},
		{"below First", 5, 2, api.ErrArg},
		{"the first block of the device", 1, 2, api.ErrArg},
		{"behind the last one", 64, 2, api.ErrArg},
		{"the greatest pointer", 1<<20 - 1, 2, api.ErrArg},
		{"a block without a count", 12, 1, api.ErrState},
		{"a leaf below First", 5, 1, api.ErrArg},
		{"a leaf behind the last one", 64, 1, api.ErrArg},
		{"itself, given up just now", 6, 1, api.ErrState},
		{"itself, a node of its own level", 6, 2, api.ErrBad},
		{"itself, a node of its own level", 6, 3, api.ErrBad},
	} {
		k := disk{
			map[uint32]api.Block{
				6: nodeOf(x.level, 10, 0, x.pointer, 10), 7: nodeOf(2), 8: nodeOf(3), 9: full(9),
				10: nodeOf(max(x.level, 2)-1, 13, 14), 11: nodeOf(1), 13: nodeOf(max(x.level, 3) - 2), 14: nodeOf(max(x.level, 3) - 2),
			},
			map[uint32]uint16{6: 1, 7: 1, 8: 1, 9: 1, 10: 1, 13: 1, 14: 2},
		}
		s, _ := both(t, 64, 20, k)
		e := share.Release(s, 6, x.level)
		if x.level == 1 { // 10 is a leaf
			wantDone(t, x.what, s, x.fault, e, 0, 1, 1, 1, 0, 0, 0, 1, 2)
		} else {
			wantDone(t, x.what, s, x.fault, e, 0, 1, 1, 1, 0, 0, 0, 0, 1)
		}

		// Others lead to it still: its pointers are not followed.
		k.counts[6] = 2
		s, _ = both(t, 64, 20, k)
		wantRelease(t, x.what, s, 6, x.level, api.OK)
		wantCounts(t, x.what, s, 1, 1, 1, 1, 1, 0, 0, 1, 2)
	}
}

// P12.1: a pointer that leads to no block, or to one without a count: a shared node is not owned, and what was done up to that point stays. What the block has does not matter, nor does it if the node isn't shared.
func TestOwnBroken(t *testing.T) {
	for _, x := range []struct {
		what    string
		pointer uint32
		fault   api.Errno
	}{
		{"any block", 9, api.OK},
		{"a node of the same level", 7, api.OK},
		{"without a count", 12, api.ErrState},
		{"below First", 5, api.ErrArg},
		{"the first block of the device", 1, api.ErrArg},
		{"behind the last one", 64, api.ErrArg},
		{"the greatest pointer", 1<<20 - 1, api.ErrArg},
	} {
		for level := uint8(1); level < 4; level++ {
			b := nodeOf(level, 10, 0, x.pointer, 10)
			for c := range uint16(3) {
				k := disk{map[uint32]api.Block{6: b, 7: nodeOf(level)}, map[uint32]uint16{6: c, 7: 1, 9: 1, 10: 1}}
				s, h := both(t, 64, 20, k)
				wantKids(t, x.what, s, 6, level, []uint32{10, x.pointer, 10}, api.OK)
				own, fault := h.own(6, level)
				switch {
				case c == 0:
					wantNoOwn(t, x.what+", free", s, 6, level, api.ErrState)
				case c == 1 || x.fault == api.OK:
					wantOwn(t, x.what, s, 6, level, 20)
				default:
					wantNoOwn(t, x.what, s, 6, level, x.fault)
					wantCounts(t, x.what, s, 2, 1, 0, 1, 2)
					wantCount(t, x.what, s, 20, 1)
				}
				if c > 1 && fault != x.fault || (own == 20) != (fault == api.OK) {
					t.Errorf("%s: by hand Own gives %d, %d", x.what, own, fault)
				}
				wantSame(t, x.what, s, h)
			}
		}
	}
}

// P12.1: a node that leads to a block that is free until its copy is taken, namely to that copy; and one that leads to itself.
func TestOwnItself(t *testing.T) {
	k := disk{map[uint32]api.Block{6: nodeOf(1, 20, 20), 7: nodeOf(1, 7)}, map[uint32]uint16{6: 2, 7: 2}}
	s, h := both(t, 64, 20, k)
	if own, e := share.Own(s, 6, 1); own != 20 || e != api.OK {
		t.Errorf("Own gives %d, %d", own, e)
	}
	h.own(6, 1)
	wantCount(t, "the copy", s, 20, 3)
	wantSame(t, "the copy", s, h)
	wantOwn(t, "itself", s, 7, 1, 21)
	h.own(7, 1)
	wantCount(t, "itself", s, 7, 2)
	wantSame(t, "itself", s, h)
}

// spoil writes noise over both blocks of a tally, on a device with one pick.
func (n *noise) spoil(d *dev.Dev, index uint32) {
	d.Write(4+2*index, n.block())
	d.Write(5+2*index, n.block())
	d.Flush()
}

// bothBad are a stage over what is on a disk of 200 blocks, of which a tally isn't valid, and the same by hand.
func bothBad(t *testing.T, hint uint32, k disk, index int) (*stage.Stage, *hand) {
	t.Helper()
	n := noise(2)
	d, r := with(t, 200, k)
	n.spoil(d, uint32(index))
	r.Hint = hint
	h := byHand(200, hint, k)
	h.bad = index
	return over(t, d, r), h
}

// P12.1, P12.2: a page of counts that is not valid: its blocks are read, but can't be counted, nor taken.
func TestBadPage(t *testing.T) {
	k := disk{
		map[uint32]api.Block{
			20: nodeOf(1, 21, 100), 21: full(1), 22: nodeOf(2, 20, 101), 100: full(2), 101: nodeOf(1, 21), 102: full(3),
			130: full(4), 131: nodeOf(1, 130),
		},
		map[uint32]uint16{20: 2, 21: 3, 22: 1, 23: 1, 100: 1, 101: 1, 102: 1, 130: 1, 131: 1},
	}
	fresh := func(hint uint32) (*stage.Stage, *hand) { return bothBad(t, hint, apart(k), 1) }
	s, h := fresh(30)
	for _, a := range []uint32{64, 100, 101, 127} {
		for range 2 {
			wantNoOwn(t, "of a bad page", s, a, 0, api.ErrBad)
			wantRelease(t, "of a bad page", s, a, 0, api.ErrBad)
			want(t, "of a bad page", share.Retain(s, a), api.ErrBad)
		}
		wantKids(t, "of a bad page", s, a, 0, nil, api.OK)
		wantFault(t, "of a bad page", s, a, 3, api.ErrBad)
	}
	wantKids(t, "a node of a bad page", s, 101, 1, []uint32{21}, api.OK)
	wantNoOwn(t, "a node of a bad page", s, 101, 1, api.ErrBad)
	wantRelease(t, "a node of a bad page", s, 101, 1, api.ErrBad)
	wantSame(t, "nothing done", s, h)

	h.own(20, 1)
	wantNoOwn(t, "shared, with a pointer to a bad page", s, 20, 1, api.ErrBad)
	wantCount(t, "up to the bad page", s, 21, 4)
	wantCount(t, "up to the bad page", s, 30, 1)
	wantSame(t, "up to the bad page", s, h)

	s, h = fresh(30)
	wantOwn(t, "not shared, with a pointer to a bad page", s, 22, 2, 30)
	h.own(22, 2)
	wantRelease(t, "a pointer to a bad page", s, 30, 2, api.ErrBad)
	h.release(30, 2)
	wantCount(t, "up to the bad page", s, 20, 1)
	wantCount(t, "up to the bad page", s, 30, 0)
	wantSame(t, "up to the bad page", s, h)

	s, h = fresh(63)
	wantOwn(t, "ahead of the bad page", s, 130, 0, 63)
	h.own(130, 0)
	for range 2 {
		wantNoOwn(t, "nothing to be taken", s, 131, 1, api.ErrBad)
		wantNoOwn(t, "free", s, 132, 0, api.ErrState)
	}
	wantRelease(t, "behind the bad page", s, 131, 1, api.ErrState) // 130 is free already
	h.release(131, 1)
	wantSame(t, "behind the bad page", s, h)
}

// apart is a disk that can be changed without the other one.
func apart(k disk) disk { return disk{maps.Clone(k.blocks), maps.Clone(k.counts)} }

// P12.1, P12.2: a page of counts with another index is not valid; without it nothing can be done.
func TestOtherPage(t *testing.T) {
	d, r := with(t, 64, chain(1, 1, 1, 1, 2))
	b, _ := tally.Put(api.Tally{Index: 1})
	d.Write(4, b)
	d.Write(5, b)
	s := over(t, d, r)
	for level := range uint8(4) {
		a := uint32(6) + uint32(level)
		wantNoOwn(t, "no counts", s, a, level, api.ErrBad)
		wantRelease(t, "no counts", s, a, level, api.ErrBad)
		want(t, "no counts", share.Retain(s, a), api.ErrBad)
		wantNoOwn(t, "no counts, and no level", s, a, 4, api.ErrArg)
	}
	wantKids(t, "no counts", s, 7, 1, []uint32{6, 10, 10}, api.OK)
}

// grow makes the greatest tree of a level; all of its blocks are new ones.
func grow(t *testing.T, s *stage.Stage, level uint8) uint32 {
	t.Helper()
	var l []uint32
	for range 32 {
		if level > 0 {
			l = append(l, grow(t, s, level-1))
		}
	}
	b := full(1)
	if level > 0 {
		b = nodeOf(level, l...)
	}
	a, e := s.New(b, false)
	if e != api.OK {
		t.Fatalf("New gives %d", e)
	}
	return a
}

// P12.2, P12.3: the greatest tree is owned along one path, which shares all the rest, and both are released; then nothing is left.
func TestGreatest(t *testing.T) {
	d, r := with(t, 40000, disk{})
	s := over(t, d, r)
	all := s.Free()
	top := grow(t, s, 3)
	if s.Free() != all-1-32-1024-32768 {
		t.Fatalf("Free is %d", s.Free())
	}
	want(t, "Retain", share.Retain(s, top), api.OK)
	own, e := share.Own(s, top, 3)
	want(t, "Own", e, api.OK)
	l, e := share.Kids(s, own, 3)
	want(t, "Kids", e, api.OK)
	for _, a := range l {
		wantCount(t, "shared", s, a, 2)
	}
	below, _ := share.Own(s, l[31], 2)
	n := append(l[:31:31], below)
	want(t, "Put", s.Put(own, nodeOf(3, n...)), api.OK)
	if s.Free() != all-2-33-1024-32768 {
		t.Errorf("Free is %d", s.Free())
	}
	wantRelease(t, "the first one", s, top, 3, api.OK)
	if s.Free() != all-1-32-1024-32768 {
		t.Errorf("Free is %d", s.Free())
	}
	wantRelease(t, "the other one", s, own, 3, api.OK)
	if s.Free() != all || s.Room(true) != all {
		t.Errorf("Free is %d, Room %d, want %d", s.Free(), s.Room(true), all)
	}
}
