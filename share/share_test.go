package share_test

import (
	"fmt"
	"math"
	"testing"

	"pantile/api"
	"pantile/share"
	"pantile/stage"
)

// fresh64 is a new stage of 64 formatted blocks.
func fresh64(t *testing.T) *stage.Stage {
	t.Helper()
	s, _ := both(t, 64, 6, disk{})
	return s
}

// The chapter's examples.
func TestExamples(t *testing.T) {
	s := fresh64(t)
	wantNew(t, s, full(9), 6)
	wantNew(t, s, nodeOf(1, 6), 7)
	wantOwn(t, "owned already", s, 7, 1, 7)
	want(t, "Retain(7)", share.Retain(s, 7), api.OK)
	wantOwn(t, "shared", s, 7, 1, 8)
	wantCounts(t, "owned", s, 2, 1, 1)
	wantRelease(t, "the first one", s, 7, 1, api.OK)
	wantCounts(t, "released", s, 1, 0, 1)
	wantRelease(t, "the other one", s, 8, 1, api.OK)
	wantCounts(t, "released", s, 0, 0, 0)

	s = fresh64(t)
	wantNew(t, s, full(9), 6)
	wantFault(t, "no node", s, 6, 1, api.ErrBad)
	wantFault(t, "no level", s, 6, 4, api.ErrArg)
	wantCounts(t, "nothing done", s, 1, 0)
}

// state is how a block came to its count in a stage of 200 blocks.
type state struct {
	what  string
	fresh bool
	old   uint16 // its count on the device, 0 of one that the stage takes
	steps int    // how often its count is raised then, or lowered
	count uint16
}

var states = []state{
	{"fresh", true, 0, 0, 1},
	{"fresh, shared", true, 0, 1, 2},
	{"fresh, shared by many", true, 0, 8, 9},
	{"fresh, given back", true, 0, -1, 0},
	{"old", false, 1, 0, 1},
	{"old, shared", false, 2, 0, 2},
	{"old, shared by many", false, 300, 0, 300},
	{"old, shared since", false, 1, 1, 2},
	{"old, not shared any more", false, 2, -1, 1},
	{"old, given back", false, 1, -1, 0},
	{"old, never taken", false, 0, 0, 0},
}

// shape is which pointers a node has, at which indices.
type shape struct {
	what     string
	pointers []uint32
}

// Their blocks are from kidsFrom on.
const (
	kidsFrom  = 100
	kidsCount = 40
)

func shapes() []shape {
	var all, same []uint32
	for i := range uint32(32) {
		all, same = append(all, kidsFrom+31-i), append(same, kidsFrom+7)
	}
	last := make([]uint32, 32)
	last[31] = kidsFrom + 3
	return []shape{
		{"none", nil},
		{"the first one", []uint32{kidsFrom}},
		{"the last one", last},
		{"twice the same", []uint32{0, kidsFrom + 5, 0, kidsFrom + 4, kidsFrom + 5}},
		{"all", all},
		{"all the same", same},
	}
}

// scene is a stage with a block of a level.
type scene struct {
	what     string
	s        *stage.Stage
	a        uint32
	level    uint8
	state    state
	pointers []uint32          // those that are followed
	counts   map[uint32]uint16 // of all blocks that have one
}

// set makes a scene: the blocks to which the pointers of a node lead are nodes, too, if its level is above 1. What a fresh block has, the device has at its place, too, so that it is read behind its last pointer.
func set(t *testing.T, level uint8, st state, sh shape) scene {
	t.Helper()
	const at = 15
	x := scene{what: fmt.Sprintf("level %d, %s, %s", level, st.what, sh.what), a: at, level: level, state: st, counts: map[uint32]uint16{}}
	b := nodeOf(max(level, 1), sh.pointers...) // of level 0: a block that happens to be a node
	k := disk{map[uint32]api.Block{at: b}, map[uint32]uint16{}}
	for a := uint32(kidsFrom); a < kidsFrom+32; a++ {
		k.blocks[a], k.counts[a], x.counts[a] = nodeOf(max(level, 2)-1), kidsCount, kidsCount
	}
	k.counts[at] = st.old
	x.s, _ = both(t, 200, at, k)
	if st.fresh {
		wantNew(t, x.s, b, at)
	}
	for range st.steps {
		want(t, x.what, x.s.More(at), api.OK)
	}
	for range -st.steps {
		_, e := x.s.Less(at)
		want(t, x.what, e, api.OK)
	}
	if x.counts[at] = st.count; level > 0 {
		for _, p := range sh.pointers {
			if p != 0 {
				x.pointers = append(x.pointers, p)
			}
		}
	}
	wantAllCounts(t, x.what, x.s, x.counts)
	return x
}

// each asks something of all scenes.
func each(t *testing.T, ask func(x scene)) {
	for level := range uint8(4) {
		for _, st := range states {
			for _, sh := range shapes() {
				ask(set(t, level, st, sh))
			}
		}
	}
}

// wantAllCounts asks for these counts, and 0 for all other blocks.
func wantAllCounts(t *testing.T, what string, s *stage.Stage, counts map[uint32]uint16) {
	t.Helper()
	size, free := s.Root().Size, uint32(0)
	for a := first(size); a < size; a++ {
		wantCount(t, what, s, a, counts[a])
		if counts[a] == 0 {
			free++
		}
	}
	if s.Free() != free {
		t.Errorf("%s: Free is %d, want %d", what, s.Free(), free)
	}
}

// P12.1: a block is owned already, or a copy of it is taken, to whose blocks there is one pointer more if others lead to the block still.
func TestOwn(t *testing.T) {
	each(t, func(x scene) {
		b, _ := x.s.Read(x.a)
		switch {
		case x.state.count == 0:
			wantNoOwn(t, x.what, x.s, x.a, x.level, api.ErrState)
		case x.state.count == 1 && x.state.fresh:
			wantOwn(t, x.what, x.s, x.a, x.level, x.a)
		default:
			own := uint32(15)
			if x.state.fresh || x.state.old != 0 {
				own = 16
			}
			wantOwn(t, x.what, x.s, x.a, x.level, own)
			x.counts[x.a]--
			x.counts[own] = 1
			for _, p := range x.pointers {
				if x.state.count > 1 {
					x.counts[p]++
				}
			}
			wantOwn(t, x.what+", once more", x.s, own, x.level, own)
		}
		if c, e := x.s.Read(x.a); c != b || e != api.OK {
			t.Errorf("%s: then Read gives %x.., %d, want %x..", x.what, c[:4], e, b[:4])
		}
		wantAllCounts(t, x.what, x.s, x.counts)
	})
}

// P12.1: a block of any level, or none, is retained, if its count is not 0.
func TestRetain(t *testing.T) {
	each(t, func(x scene) {
		fault := api.OK
		if x.state.count == 0 {
			fault = api.ErrState
		} else {
			x.counts[x.a]++
		}
		want(t, x.what, share.Retain(x.s, x.a), fault)
		wantAllCounts(t, x.what, x.s, x.counts)
		if x.s.Fresh(x.a) != (x.state.fresh && fault == api.OK) {
			t.Errorf("%s: Fresh is %t", x.what, x.s.Fresh(x.a))
		}
	})
}

// P12.2: a block is released, and its pointers with the last one to it.
func TestRelease(t *testing.T) {
	each(t, func(x scene) {
		fault := api.OK
		if x.state.count == 0 {
			fault = api.ErrState
		} else {
			x.counts[x.a]--
		}
		wantRelease(t, x.what, x.s, x.a, x.level, fault)
		for _, p := range x.pointers {
			if x.state.count == 1 {
				x.counts[p]--
			}
		}
		wantAllCounts(t, x.what, x.s, x.counts)
		if x.s.Fresh(x.a) != (x.state.fresh && x.state.count > 1) {
			t.Errorf("%s: Fresh is %t", x.what, x.s.Fresh(x.a))
		}
	})
}

// P12.2: the pointers of a block that are not 0, whatever its count is; nothing is changed.
func TestKids(t *testing.T) {
	each(t, func(x scene) {
		wantKids(t, x.what, x.s, x.a, x.level, x.pointers, api.OK)
		wantAllCounts(t, x.what, x.s, x.counts)
	})
}

// P12.1, P12.2: which contents are those of a block of a level; for level 0 all are. ErrBad comes ahead of what is wrong with the count.
func TestContents(t *testing.T) {
	n := noise(1)
	good := nodeOf(2, 6)
	torn, other := good, good
	torn[20] ^= 1
	other[0]++
	for what, b := range map[string]api.Block{
		"zeros": {}, "noise": n.block(), "a level 1 node": nodeOf(1, 6), "a level 2 node": good, "a level 3 node": nodeOf(3, 6),
		"a torn node": torn, "with another magic": other, "an empty one of level 1": nodeOf(1),
	} {
		for _, level := range []uint8{0, 1, 2, 3, 4, 5, 128, 255} {
			for free := range 3 {
				fault := api.OK
				switch {
				case level > 3:
					fault = api.ErrArg
				case level > 0 && (b[0] != 0x4e || b[1] != level || what == "noise" || what == "a torn node"):
					fault = api.ErrBad
				}
				s, h := both(t, 64, 6, disk{map[uint32]api.Block{9: b}, map[uint32]uint16{6: 3, 7: 1, 9: 1}})
				a := uint32(9)
				switch free {
				case 1: // fresh
					a = wantBoth(t, s, h, b, false)
				case 2: // without a pointer
					h.less(9)
					s.Less(9)
				}
				if fault == api.OK {
					wantLikeHand(t, what, s, h, a, level)
					continue
				}
				wantFault(t, what, s, a, level, fault)
				wantSame(t, what, s, h)
			}
		}
	}
}

// wantLikeHand asks for what is done by hand of all four calls.
func wantLikeHand(t *testing.T, what string, s *stage.Stage, h *hand, a uint32, level uint8) {
	t.Helper()
	l, fault := h.pointers(a, level)
	wantKids(t, what, s, a, level, l, fault)
	own, fault := h.own(a, level)
	if got, e := share.Own(s, a, level); got != own || e != fault {
		t.Errorf("%s: Own(%d, %d) gives %d, %d, want %d, %d", what, a, level, got, e, own, fault)
	}
	wantSame(t, what+", owned", s, h)
	want(t, what+": Retain", share.Retain(s, a), h.more(a))
	wantSame(t, what+", retained", s, h)
	wantRelease(t, what, s, a, level, h.release(a, level))
	wantSame(t, what+", released", s, h)
}

// P12.1, P12.2: without a stage there is nothing, whatever the level, and the block.
func TestNoStage(t *testing.T) {
	for what, s := range map[string]*stage.Stage{"no stage": nil, "a zero stage": new(stage.Stage)} {
		for _, a := range []uint32{0, 5, 6, 63, 64, math.MaxUint32} {
			for _, level := range []uint8{0, 1, 2, 3, 4, 255} {
				wantFault(t, what, s, a, level, api.ErrNil)
			}
			want(t, what, share.Retain(s, a), api.ErrNil)
		}
	}
}

// P12.1, P12.2: on a stage that is finished, the error of the level comes first, and then that of the stage, whatever the block.
func TestFinished(t *testing.T) {
	k := disk{map[uint32]api.Block{6: full(1), 7: nodeOf(1, 6)}, map[uint32]uint16{6: 1, 7: 1}}
	for _, fuse := range []int{99, 0, 1, 3} {
		d, r := with(t, 64, k)
		s := over(t, d, r)
		wantNew(t, s, full(1), 8)
		d.Fuse(fuse)
		if _, e := s.Commit(8, 1, 2); (e == api.OK) != (fuse == 99) {
			t.Errorf("behind %d writes Commit gives %d", fuse, e)
		}
		for _, a := range []uint32{0, 5, 6, 7, 8, 9, 63, 64, math.MaxUint32} {
			for _, level := range []uint8{0, 1, 2, 3} {
				wantFault(t, "finished", s, a, level, api.ErrState)
			}
			wantFault(t, "finished", s, a, 4, api.ErrArg)
			wantFault(t, "finished", s, a, 255, api.ErrArg)
			want(t, "finished: Retain", share.Retain(s, a), api.ErrState)
		}
	}
}

// P12.1, P12.2: the blocks around the first one, and the last one, that is allocated.
func TestEdges(t *testing.T) {
	for _, n := range []uint32{64, 65, 200} {
		f := first(n)
		for level := range uint8(4) {
			for _, c := range []uint16{1, 2} {
				b := nodeOf(max(level, 1), f+1, n-2)
				k := disk{map[uint32]api.Block{f: b, n - 1: b}, map[uint32]uint16{f: c, n - 1: c, f + 1: 5, n - 2: 5}}
				k.blocks[f+1], k.blocks[n-2] = nodeOf(max(level, 2)-1), nodeOf(max(level, 2)-1)
				for _, a := range []uint32{f, n - 1} {
					s, h := both(t, n, n-1, k)
					wantLikeHand(t, "at the edge", s, h, a, level)
				}
				s, h := both(t, n, f, k)
				for _, a := range []uint32{0, 1, 2, f - 1, n, n + 1, 1 << 20, math.MaxUint32} {
					wantFault(t, "behind the edge", s, a, level, api.ErrArg)
					want(t, "behind the edge", share.Retain(s, a), api.ErrArg)
				}
				wantSame(t, "behind the edge", s, h)
			}
		}
	}
}

// P12.1: a copy needs room, and the last blocks of it are for deletes; what is owned already, retained or released needs none. Without room nothing is changed.
func TestRoom(t *testing.T) {
	b := nodeOf(1, 10)
	for _, room := range []uint32{0, 1, 23, 24, 25, 26, 27, 28} {
		k := disk{map[uint32]api.Block{6: b, 7: b}, map[uint32]uint16{6: 1, 7: 2, 10: 3}}
		for a := uint32(11); a < 64-room; a++ {
			k.counts[a] = 1
		}
		s, h := both(t, 64, 6, k)
		wantBoth(t, s, h, b, true)
		wantBoth(t, s, h, b, true)
		want(t, "Retain(9)", share.Retain(s, 9), h.more(9))
		wantSame(t, "at first", s, h)
		if h.room() != room {
			t.Fatalf("%d blocks are left, want %d", h.room(), room)
		}
		if room > 0 {
			wantNoOwn(t, "free", s, 63, 0, api.ErrState)
		}
		for i, a := range []uint32{8, 6, 7, 9, 10} { // 8 is owned already
			own, fault := h.own(a, uint8(min(1, 4-i)))
			if (fault == api.OK) != (i == 0 || int(room) >= 24+i) || fault != api.OK && fault != api.ErrSpace {
				t.Errorf("by hand Own(%d) gives %d with a room of %d at first", a, fault, room)
			}
			if fault != api.OK {
				wantNoOwn(t, "no room", s, a, uint8(min(1, 4-i)), fault)
			}
			if got, e := share.Own(s, a, uint8(min(1, 4-i))); got != own || e != fault {
				t.Errorf("room %d: Own(%d) gives %d, %d, want %d, %d", room, a, got, e, own, fault)
			}
			wantSame(t, "owned", s, h)
		}
		wantFault(t, "no node", s, 7, 2, api.ErrBad)
		for _, a := range []uint32{8, 7, 9, 10} {
			want(t, "Retain", share.Retain(s, a), h.more(a))
		}
		for _, a := range []uint32{7, 9, 8, 8} {
			wantRelease(t, "room", s, a, 1, h.release(a, 1))
			wantSame(t, "released", s, h)
		}
	}
}

// P12.1, P12.2: counts of 65535: one pointer more is refused, and what was done until then stays.
func TestCounts(t *testing.T) {
	top := nodeOf(1, 7, 8, 9, 9, 9, 10)
	k := disk{
		map[uint32]api.Block{6: top, 7: full(7), 8: full(8), 9: full(9), 10: full(10)},
		map[uint32]uint16{6: 65535, 7: 1, 8: 65534, 9: 65532, 10: 65534},
	}
	s, _ := both(t, 64, 6, k)
	want(t, "Retain(6)", share.Retain(s, 6), api.ErrFull)
	wantOwn(t, "the greatest count", s, 6, 1, 11)
	wantCounts(t, "each as high as it may be", s, 65534, 2, 65535, 65535, 65535, 1)
	want(t, "Retain(6)", share.Retain(s, 6), api.OK)
	want(t, "Retain(8)", share.Retain(s, 8), api.ErrFull)
	wantNoOwn(t, "too many", s, 6, 1, api.ErrFull)
	wantCounts(t, "up to 8", s, 65535, 3, 65535, 65535, 65535, 1, 1)
	wantOwn(t, "level 0, with the greatest count", s, 9, 0, 13)
	wantOwn(t, "level 0, a node with the greatest count", s, 6, 0, 14)
	wantCounts(t, "level 0", s, 65534, 3, 65535, 65534, 65535, 1, 1, 1, 1)
	wantRelease(t, "the greatest count", s, 8, 0, api.OK)
	wantRelease(t, "a copy", s, 11, 1, api.OK)
	wantCounts(t, "released", s, 65534, 2, 65533, 65531, 65534, 0, 1, 1, 1)

	// The same block three times, of which the third one is too many; and none too many, if it is the only pointer to the node.
	k.counts[8], k.counts[9], k.counts[10], k.counts[6] = 65533, 65533, 65533, 2
	s, _ = both(t, 64, 6, k)
	wantNoOwn(t, "the third one", s, 6, 1, api.ErrFull)
	wantCounts(t, "up to the third one", s, 2, 2, 65534, 65535, 65533, 1)
	k.counts[6] = 1
	k.counts[9] = 65535
	s, _ = both(t, 64, 6, k)
	wantOwn(t, "the only one", s, 6, 1, 11)
	wantCounts(t, "the only one", s, 0, 1, 65533, 65535, 65533, 1)
}

// P12.1, P12.2: the calls need a device that can be read alone, and write nothing to it.
func TestDevice(t *testing.T) {
	k := disk{map[uint32]api.Block{6: full(6), 7: nodeOf(1, 6), 8: nodeOf(2, 7)}, map[uint32]uint16{6: 1, 7: 1, 8: 2}}
	d, r := with(t, 64, k)
	s := over(t, d, r)
	d.Fuse(0)
	d.Flush()
	writes := d.Writes()
	wantKids(t, "down", s, 8, 2, []uint32{7}, api.OK)
	wantOwn(t, "down", s, 8, 2, 9)
	wantOwn(t, "down", s, 7, 1, 10)
	want(t, "Retain(6)", share.Retain(s, 6), api.OK)
	wantRelease(t, "down", s, 8, 2, api.OK)
	wantCounts(t, "down", s, 2, 0, 0, 1, 1)
	if d.Writes() != writes || d.Pending() != 0 {
		t.Errorf("%d writes, %d pending", d.Writes()-writes, d.Pending())
	}
	for a, b := range k.blocks {
		if got, _ := d.Read(a); got != b {
			t.Errorf("the device has %x.. at %d", got[:4], a)
		}
	}
}
