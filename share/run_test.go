package share_test

import (
	"fmt"
	"testing"

	"pantile/api"
	"pantile/share"
	"pantile/stage"
)

// levelOf is the level that most pointers to a block take it for.
func levelOf(a uint32) uint8 { return uint8(a % 4) }

// pointer is one from a node of a level: most of them lead to a block of the level below, some to any block, or to none.
func (n *noise) pointer(size uint32, level uint8) uint32 {
	switch n.below(24) {
	case 0:
		return uint32(n.below(int(size) + 8))
	case 1:
		return uint32(n.next()) % api.MaxBlocks
	}
	a := first(size) + uint32(n.below(int(size-first(size))))
	return a - a%4 + uint32(level) - 1
}

// contents are any ones of a block of a level, rarely of another one.
func (n *noise) contents(size uint32, level uint8) api.Block {
	if n.below(20) == 0 {
		level = uint8(n.below(4))
	}
	if level == 0 {
		return n.block()
	}
	l := make([]uint32, 32)
	for range n.below(5) {
		l[n.below(32)] = n.pointer(size, level)
	}
	return nodeOf(level, l...)
}

// count is any one, mostly a low one, rarely one of the greatest.
func (n *noise) count() uint16 {
	switch n.below(8) {
	case 0:
		return 65535 - uint16(n.below(3))
	case 1:
		return 0
	}
	return 1 + uint16(n.below(3))
}

// disk is any one of that many blocks, of which some are free.
func (n *noise) disk(size uint32) disk {
	k := disk{map[uint32]api.Block{}, map[uint32]uint16{}}
	many := 2 + n.below(7)
	for a := first(size); a < size; a++ {
		if k.blocks[a] = n.contents(size, levelOf(a)); n.below(8) < many {
			k.counts[a] = n.count()
		}
	}
	return k
}

// call does one thing to a stage, and the same by hand. It returns the error.
func (n *noise) call(t *testing.T, s *stage.Stage, h *hand) api.Errno {
	t.Helper()
	a := n.pointer(h.size, uint8(1+n.below(4)))
	level := levelOf(a)
	if n.below(16) == 0 {
		level = uint8(n.below(6))
	}
	var fault api.Errno
	switch n.below(8) {
	case 0, 1, 2:
		var own uint32
		own, fault = h.own(a, level)
		if got, e := share.Own(s, a, level); got != own || e != fault {
			t.Errorf("Own(%d, %d) gives %d, %d, want %d, %d", a, level, got, e, own, fault)
		}
	case 3, 4:
		fault = h.release(a, level)
		wantRelease(t, "any", s, a, level, fault)
	case 5:
		fault = h.more(a)
		want(t, fmt.Sprintf("Retain(%d)", a), share.Retain(s, a), fault)
	case 6:
		var l []uint32
		l, fault = h.pointers(a, level)
		wantKids(t, "any", s, a, level, l, fault)
	case 7:
		if s.Fresh(a) {
			b := n.contents(h.size, levelOf(a))
			h.put(a, b)
			want(t, "Put", s.Put(a, b), api.OK)
		} else {
			b := n.contents(h.size, levelOf(h.hint))
			wantBoth(t, s, h, b, n.below(3) == 0)
		}
	}
	return fault
}

// P12.1, P12.2: any calls, on any blocks, with any pointers (also in circles, and to nothing), and any counts: each does what it does by hand, and writes nothing.
func TestAnyCalls(t *testing.T) {
	n := noise(10)
	faults := map[api.Errno]int{}
	for _, size := range []uint32{64, 65, 128, 200} {
		for range 60 {
			k := n.disk(size)
			d, r := with(t, size, k)
			h := byHand(size, first(size)+uint32(n.below(int(size-first(size)))), k)
			if r.Hint = h.hint; n.below(6) == 0 {
				h.bad = n.below(int(size / 64))
				n.spoil(d, uint32(h.bad))
			}
			s, writes := over(t, d, r), d.Writes()
			for range 80 {
				faults[n.call(t, s, h)]++
				wantSame(t, "any", s, h)
				if t.Failed() {
					t.Fatalf("with %d blocks", size)
				}
			}
			if d.Writes() != writes || d.Pending() != 0 {
				t.Errorf("%d writes, %d pending", d.Writes()-writes, d.Pending())
			}
		}
	}
	for _, e := range []api.Errno{api.OK, api.ErrArg, api.ErrBad, api.ErrState, api.ErrFull, api.ErrSpace} {
		if faults[e] < 30 {
			t.Errorf("%d calls with the error %d: too few to tell", faults[e], e)
		}
	}
}
