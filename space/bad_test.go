package space_test

import (
	"fmt"
	"testing"

	"pantile/api"
	"pantile/dev"
	"pantile/tally"
)

// spoil writes noise over both blocks of a tally.
func (n *noise) spoil(d *dev.Dev, picks, index uint32) {
	at := 2 + 2*picks + 2*index
	d.Write(at, n.block())
	d.Write(at+1, n.block())
}

// spoilPick writes noise over both blocks of a pick.
func (n *noise) spoilPick(d *dev.Dev, index uint32) {
	d.Write(2+2*index, n.block())
	d.Write(3+2*index, n.block())
}

// P10.1: the search gives ErrBad when it reaches a block whose tally is not valid, but not when an available block is ahead of it.
func TestTakeBadTally(t *testing.T) {
	n := noise(2)
	d, r := formatted(t, 256) // First 12, tallies from 0, 64, 128, 192 on
	n.spoil(d, 1, 2)

	s := over(t, table(t, d, r), from(r, 126, r.Free))
	wantTake(t, "ahead of it", s, false, 126)
	wantTake(t, "ahead of it", s, false, 127)
	wantNone(t, "at its first block", s, false, api.ErrBad)
	wantNone(t, "at its first block", s, true, api.ErrBad)
	wantLess(t, "ahead of it", s, 127, 0)
	wantNone(t, "the search does not go back", s, true, api.ErrBad)

	for _, hint := range []uint32{128, 150, 191} {
		s = over(t, table(t, d, r), from(r, hint, r.Free))
		wantNone(t, "in it", s, false, api.ErrBad)
	}
	s = over(t, table(t, d, r), from(r, 192, r.Free))
	for a := uint32(192); a < 256; a++ {
		wantTake(t, "behind it", s, false, a)
	}
	for a := uint32(12); a < 128; a++ {
		wantTake(t, "around", s, false, a)
	}
	wantNone(t, "around, at its first block", s, false, api.ErrBad)
}

// P10.1: the tally of First is reached around the end of the device; a tally behind no available block is reached.
func TestTakeBadFirst(t *testing.T) {
	n := noise(3)
	d, r := with(t, 128, map[uint32]uint16{126: 1}) // First 8
	n.spoil(d, 1, 0)
	s := over(t, table(t, d, r), from(r, 125, r.Free))
	wantTake(t, "ahead of an old count", s, true, 125)
	wantTake(t, "behind an old count", s, true, 127)
	wantNumbers(t, "at the end", s, r.Free-2, r.Free-2, 8)
	wantNone(t, "around the end", s, true, api.ErrBad)

	s = over(t, table(t, d, r), from(r, 126, 1))
	wantTake(t, "the one block of the room", s, true, 127)
	wantNone(t, "no room comes ahead of a tally that is not valid", s, true, api.ErrSpace)
}

// P10.1: ErrSpace of a room of 0 comes ahead of ErrBad, with and without the Reserve.
func TestSpaceBeforeBad(t *testing.T) {
	n := noise(4)
	d, r := formatted(t, 64)
	n.spoil(d, 1, 0)
	for free, faults := range map[uint32][2]api.Errno{0: {api.ErrSpace, api.ErrSpace}, 1: {api.ErrSpace, api.ErrBad}, 24: {api.ErrSpace, api.ErrBad}, 25: {api.ErrBad, api.ErrBad}} {
		s := over(t, table(t, d, r), from(r, 6, free))
		wantNone(t, fmt.Sprintf("a Free of %d", free), s, false, faults[0])
		wantNone(t, fmt.Sprintf("a Free of %d", free), s, true, faults[1])
	}
}

// P10.1: no block is available, and no page is bad: ErrSpace, though the Free says something else. With a page that is not valid it is ErrBad.
func TestNoneAvailable(t *testing.T) {
	n := noise(5)
	counts := map[uint32]uint16{}
	for a := uint32(8); a < 128; a++ {
		counts[a] = uint16(a)
	}
	d, r := with(t, 128, counts)
	for hint := uint32(8); hint < 128; hint++ {
		s := over(t, table(t, d, r), from(r, hint, 100))
		wantNone(t, "no block", s, false, api.ErrSpace)
		wantLess(t, "an old count", s, 8, 7)
		wantNone(t, "no block", s, true, api.ErrSpace)
	}
	n.spoil(d, 1, 1)
	for hint := uint32(8); hint < 128; hint++ {
		wantNone(t, "a bad tally", over(t, table(t, d, r), from(r, hint, 100)), true, api.ErrBad)
	}
}

// P10.2: More, Less and Count of blocks of a tally that is not valid; ErrArg comes ahead of it. The other tallies are not concerned.
func TestCountBad(t *testing.T) {
	n := noise(6)
	d, r := with(t, 200, map[uint32]uint16{64: 4, 127: 4, 192: 4})
	n.spoil(d, 1, 0)
	n.spoil(d, 1, 3)
	s := over(t, table(t, d, r), r)
	for _, a := range []uint32{first(200), 63, 192, 199} {
		wantFaults(t, "a bad tally", s, a, api.ErrBad, api.ErrBad, api.ErrBad)
	}
	for _, a := range []uint32{0, first(200) - 1, 200, 255} {
		wantFaults(t, "no block of a bad tally", s, a, api.ErrArg, api.ErrArg, api.ErrArg)
	}
	for _, a := range []uint32{64, 127} {
		want(t, "More", s.More(a), api.OK)
		wantLess(t, "a tally that is valid", s, a, 4)
	}
	wantFaults(t, "a tally that is valid", s, 65, api.ErrState, api.ErrState, api.OK)
}

// P10.1, P10.2: a tally of another Index is not valid.
func TestOtherIndex(t *testing.T) {
	d, r := formatted(t, 128)
	x := api.Tally{Index: 0}
	x.Counts[9] = 1
	b, _ := tally.Put(x)
	d.Write(6, b)
	s := over(t, table(t, d, r), from(r, 64, r.Free))
	wantNone(t, "a tally of another Index", s, true, api.ErrBad)
	wantFaults(t, "a tally of another Index", s, 70, api.ErrBad, api.ErrBad, api.ErrBad)
}

// P10.1, P10.2: a pick that is not valid makes all of its blocks bad, also those that are reached around the end.
func TestBadPick(t *testing.T) {
	n := noise(7)
	const size, edge = 3 * 65536, 65536
	d, r := formatted(t, size)
	n.spoilPick(d, 1)
	s := over(t, table(t, d, r), from(r, edge-2, r.Free))
	wantTake(t, "ahead of it", s, false, edge-2)
	wantTake(t, "ahead of it", s, false, edge-1)
	wantNone(t, "at its first block", s, false, api.ErrBad)
	for _, a := range []uint32{edge, edge + 1000, 2*edge - 1} {
		wantNone(t, "in it", over(t, table(t, d, r), from(r, a, r.Free)), true, api.ErrBad)
		wantFaults(t, "in it", s, a, api.ErrBad, api.ErrBad, api.ErrBad)
	}
	wantFaults(t, "behind it", s, 2*edge, api.ErrState, api.ErrState, api.OK)
	wantTake(t, "behind it", over(t, table(t, d, r), from(r, 2*edge, r.Free)), false, 2*edge)

	d, r = formatted(t, size)
	n.spoilPick(d, 0)
	s = over(t, table(t, d, r), from(r, size-1, r.Free))
	wantTake(t, "the last block", s, false, size-1)
	wantNone(t, "around the end", s, false, api.ErrBad)
}
