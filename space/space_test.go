package space_test

import (
	"fmt"
	"math"
	"testing"

	"pantile/api"
	"pantile/count"
	"pantile/dev"
	"pantile/root"
	"pantile/space"
)

// noise is a source of numbers that are the same in each run.
type noise uint64

func (n *noise) next() uint64 {
	*n = *n*6364136223846793005 + 1442695040888963407
	return uint64(*n) ^ uint64(*n)>>33
}

func (n *noise) below(end int) int { return int(n.next() % uint64(end)) }

// block is one that is no page.
func (n *noise) block() (b api.Block) {
	for i := range b {
		b[i] = byte(n.next())
	}
	return b
}

// formatted is a device of n blocks behind a format.
func formatted(t *testing.T, n uint32) (*dev.Dev, api.Root) {
	t.Helper()
	d, _ := dev.New(n)
	r, e := root.Format(d)
	if e != api.OK {
		t.Fatalf("Format gives %d", e)
	}
	return d, r
}

// with is a device of n blocks, and a root that has these counts, and the Free that belongs to them.
func with(t *testing.T, n uint32, counts map[uint32]uint16) (*dev.Dev, api.Root) {
	t.Helper()
	d, r := formatted(t, n)
	x := table(t, d, r)
	for a, c := range counts {
		want(t, "Set", x.Set(a, c), api.OK)
		if c != 0 {
			r.Free--
		}
	}
	l, picks, _ := x.Seal()
	r.Gen, r.Picks = r.Gen+1, picks
	want(t, "Commit", root.Commit(d, l, r), api.OK)
	return d, r
}

// from is a root with another Hint, and with another Free.
func from(r api.Root, hint, free uint32) api.Root {
	r.Hint, r.Free = hint, free
	return r
}

func first(n uint32) uint32 {
	p, _ := root.Layout(n)
	return p.First
}

func table(t *testing.T, d *dev.Dev, r api.Root) *count.Table {
	t.Helper()
	x, e := count.Open(d, r)
	if x == nil || e != api.OK {
		t.Fatalf("Open gives %v, %d", x, e)
	}
	return x
}

func over(t *testing.T, x *count.Table, r api.Root) *space.Space {
	t.Helper()
	s, e := space.New(x, r)
	if s == nil || e != api.OK {
		t.Fatalf("New gives %v, %d", s, e)
	}
	return s
}

// hand is a space that is kept by hand, over a table of its own in which nothing is set.
type hand struct {
	x    *count.Table
	r    api.Root
	set  map[uint32]uint16
	hint uint32
}

func byHand(t *testing.T, d *dev.Dev, r api.Root) *hand {
	t.Helper()
	return &hand{table(t, d, r), r, map[uint32]uint16{}, r.Hint}
}

// both are a space of a root, and the same by hand.
func both(t *testing.T, d *dev.Dev, r api.Root) (*space.Space, *hand) {
	t.Helper()
	return over(t, table(t, d, r), r), byHand(t, d, r)
}

// count is that of a, and the error.
func (h *hand) count(a uint32) (uint16, api.Errno) {
	if a < h.x.First() || a >= h.r.Size {
		return 0, api.ErrArg
	}
	if c, ok := h.set[a]; ok {
		return c, api.OK
	}
	return h.x.Old(a)
}

// free is the Free of the root, minus one for each block whose old count is 0 and whose count is not, plus one for each block whose old count is not 0 and whose count is.
func (h *hand) free() uint32 {
	n := int64(h.r.Free)
	for a, c := range h.set {
		old, _ := h.x.Old(a)
		if old == 0 && c != 0 {
			n--
		}
		if old != 0 && c == 0 {
			n++
		}
	}
	return uint32(max(n, 0))
}

// room is the Free of the root, minus one for each block that is taken, and has not the count 0 again.
func (h *hand) room(spare bool) uint32 {
	n := int64(h.r.Free)
	for a, c := range h.set {
		if old, _ := h.x.Old(a); old == 0 && c != 0 {
			n--
		}
	}
	if !spare {
		n -= 24
	}
	return uint32(max(n, 0))
}

func (h *hand) take(spare bool) (uint32, api.Errno) {
	if h.room(spare) == 0 {
		return 0, api.ErrSpace
	}
	f, n := h.x.First(), h.r.Size
	for i := range n - f {
		a := f + (h.hint-f+i)%(n-f)
		old, e := h.x.Old(a)
		if e != api.OK {
			return 0, e
		}
		if c, _ := h.count(a); old != 0 || c != 0 {
			continue
		}
		h.set[a], h.hint = 1, a+1
		if h.hint == n {
			h.hint = f
		}
		return a, api.OK
	}
	return 0, api.ErrSpace
}

func (h *hand) more(a uint32) api.Errno {
	c, e := h.count(a)
	switch {
	case e != api.OK:
		return e
	case c == 0:
		return api.ErrState
	case c == 65535:
		return api.ErrFull
	}
	h.set[a] = c + 1
	return api.OK
}

func (h *hand) less(a uint32) (uint16, api.Errno) {
	c, e := h.count(a)
	switch {
	case e != api.OK:
		return 0, e
	case c == 0:
		return 0, api.ErrState
	}
	h.set[a] = c - 1
	return c - 1, api.OK
}

func want(t *testing.T, what string, got, want api.Errno) {
	t.Helper()
	if got != want {
		t.Errorf("%s: error %d, want %d", what, got, want)
	}
}

// wantNumbers asks for the number of free blocks, the room, and the Hint, twice (R4).
func wantNumbers(t *testing.T, what string, s *space.Space, free, room, hint uint32) {
	t.Helper()
	for range 2 {
		if s.Free() != free || s.Room(true) != room || s.Hint() != hint {
			t.Errorf("%s: Free %d, Room(true) %d, Hint %d, want %d, %d, %d", what, s.Free(), s.Room(true), s.Hint(), free, room, hint)
		}
		if less := max(room, 24) - 24; s.Room(false) != less {
			t.Errorf("%s: Room(false) %d, want %d", what, s.Room(false), less)
		}
	}
}

// wantSame asks that a space has the numbers that it has by hand, and the count of each of these blocks (of all if there are none).
func wantSame(t *testing.T, what string, s *space.Space, h *hand, blocks ...uint32) {
	t.Helper()
	wantNumbers(t, what, s, h.free(), h.room(true), h.hint)
	if blocks == nil {
		for a := range h.r.Size + 2 {
			blocks = append(blocks, a)
		}
	}
	for _, a := range blocks {
		c, fault := h.count(a)
		if n, e := s.Count(a); n != c || e != fault {
			t.Errorf("%s: Count(%d) gives %d, %d, want %d, %d", what, a, n, e, c, fault)
		}
	}
}

// wantTake asks for the block that is taken.
func wantTake(t *testing.T, what string, s *space.Space, spare bool, block uint32) {
	t.Helper()
	if a, e := s.Take(spare); a != block || e != api.OK {
		t.Errorf("%s: Take(%t) gives %d, %d, want %d", what, spare, a, e, block)
	}
}

// wantNone asks for an error of Take, which takes nothing (R3), twice (R4).
func wantNone(t *testing.T, what string, s *space.Space, spare bool, fault api.Errno) {
	t.Helper()
	free, room, hint := s.Free(), s.Room(true), s.Hint()
	for range 2 {
		if a, e := s.Take(spare); a != 0 || e != fault {
			t.Errorf("%s: Take(%t) gives %d, %d, want error %d", what, spare, a, e, fault)
		}
	}
	wantNumbers(t, what, s, free, room, hint)
}

// wantCount asks for the count of a block.
func wantCount(t *testing.T, what string, s *space.Space, a uint32, c uint16) {
	t.Helper()
	if n, e := s.Count(a); n != c || e != api.OK {
		t.Errorf("%s: Count(%d) gives %d, %d, want %d", what, a, n, e, c)
	}
}

// wantLess asks for the count to which that of a block is decreased.
func wantLess(t *testing.T, what string, s *space.Space, a uint32, c uint16) {
	t.Helper()
	if n, e := s.Less(a); n != c || e != api.OK {
		t.Errorf("%s: Less(%d) gives %d, %d, want %d", what, a, n, e, c)
	}
}

// wantFaults asks for errors of More, Less and Count, which change nothing (R3), twice (R4).
func wantFaults(t *testing.T, what string, s *space.Space, a uint32, more, less, asked api.Errno) {
	t.Helper()
	free, room, hint := s.Free(), s.Room(true), s.Hint()
	was, _ := s.Count(a)
	for range 2 {
		if more != api.OK {
			want(t, fmt.Sprintf("%s: More(%d)", what, a), s.More(a), more)
		}
		if less != api.OK {
			if n, e := s.Less(a); n != 0 || e != less {
				t.Errorf("%s: Less(%d) gives %d, %d, want error %d", what, a, n, e, less)
			}
		}
		if n, e := s.Count(a); n != was || e != asked {
			t.Errorf("%s: Count(%d) gives %d, %d, want %d, %d", what, a, n, e, was, asked)
		}
	}
	wantNumbers(t, what, s, free, room, hint)
}

// The chapter's examples.
func TestExamples(t *testing.T) {
	d, r := formatted(t, 64)
	s := over(t, table(t, d, r), r)
	wantTake(t, "the first one", s, false, 6)
	wantTake(t, "the second one", s, false, 7)
	if s.Free() != 56 || s.Room(false) != 32 || s.Room(true) != 56 || s.Hint() != 8 {
		t.Errorf("Free %d, Room(false) %d, Room(true) %d, Hint %d", s.Free(), s.Room(false), s.Room(true), s.Hint())
	}
	want(t, "More(6)", s.More(6), api.OK)
	wantLess(t, "of 2", s, 6, 1)
	wantLess(t, "of 1", s, 6, 0)
	if n, e := s.Less(6); n != 0 || e != api.ErrState {
		t.Errorf("Less of 0 gives %d, %d", n, e)
	}
	if s.Room(true) != 57 || s.Room(false) != 33 {
		t.Errorf("Room(true) %d, Room(false) %d", s.Room(true), s.Room(false))
	}
	for a := uint32(8); a <= 40; a++ {
		wantTake(t, "33 blocks", s, false, a)
	}
	wantNone(t, "the Reserve", s, false, api.ErrSpace)
	for a := uint32(41); a < 64; a++ {
		wantTake(t, "for a delete", s, true, a)
	}
	wantTake(t, "the search has come around", s, true, 6)
	wantNone(t, "no room", s, true, api.ErrSpace)
}

// P10.1: a space is over a table.
func TestNewNil(t *testing.T) {
	_, r := formatted(t, 64)
	for what, x := range map[string]*count.Table{"no table": nil, "a zero table": new(count.Table)} {
		for _, r := range []api.Root{r, {}, {Size: 64}, from(r, 5, 58)} {
			if s, e := space.New(x, r); s != nil || e != api.ErrNil {
				t.Errorf("%s: New gives %v, %d, want ErrNil", what, s, e)
			}
		}
	}
}

// P10.1: roots of another Size, and with a Hint that is no block with a count, are refused.
func TestNewArg(t *testing.T) {
	for _, size := range []uint32{64, 65, 200, 4096, 1 << 20} {
		d, r := formatted(t, size)
		x := table(t, d, r)
		for _, n := range []uint32{0, 1, 63, size - 64, size - 1, size + 1, size + 64, 1 << 31, math.MaxUint32} {
			bad := r
			bad.Size = n
			if s, e := space.New(x, bad); s != nil || e != api.ErrArg {
				t.Errorf("New of the Size %d over %d blocks gives %v, %d, want ErrArg", n, size, s, e)
			}
		}
		for _, hint := range []uint32{0, 1, 2, first(size) - 2, first(size) - 1, size, size + 1, 1 << 31, math.MaxUint32} {
			if s, e := space.New(x, from(r, hint, r.Free)); s != nil || e != api.ErrArg {
				t.Errorf("New of the Hint %d over %d blocks gives %v, %d, want ErrArg", hint, size, s, e)
			}
		}
		for _, hint := range []uint32{first(size), first(size) + 1, size / 2, size - 2, size - 1} {
			wantNumbers(t, "a Hint that is allowed", over(t, x, from(r, hint, r.Free)), r.Free, r.Free, hint)
		}
	}
}

// P10.1: nothing else of a root is asked for, and nothing is read.
func TestNewAsksForNothingElse(t *testing.T) {
	n := noise(1)
	d, r := formatted(t, 200)
	for a := range first(200) {
		d.Write(a, n.block())
	}
	other := api.Root{Size: 200, Hint: 50, Free: 9, Gen: 77, Picks: math.MaxUint32, Names: 300, Vols: 200}
	for _, r := range []api.Root{from(r, 50, 9), {Size: 200, Hint: 50, Free: 9}, other} {
		s := over(t, table(t, d, r), r)
		wantNumbers(t, "over a device without a page", s, 9, 9, 50)
		wantNone(t, "over a device without a page", s, true, api.ErrBad)
	}
}

// P10.1: the search goes from the Hint to the last block, and from First on.
func TestTakeFromHint(t *testing.T) {
	for _, size := range []uint32{64, 65, 128, 200} {
		d, r := formatted(t, size)
		f := first(size)
		for _, hint := range []uint32{f, f + 1, size / 2, size - 2, size - 1} {
			s := over(t, table(t, d, r), from(r, hint, r.Free))
			for i := range size - f {
				a := f + (hint-f+i)%(size-f)
				next := a + 1
				if next == size {
					next = f
				}
				wantTake(t, "around the device", s, true, a)
				wantCount(t, "taken", s, a, 1)
				wantNumbers(t, "taken", s, size-f-i-1, size-f-i-1, next)
			}
			wantNone(t, "all blocks are taken", s, true, api.ErrSpace)
		}
	}
}

// P10.1: blocks with an old count, or with a count, are passed over, also those around the end of the device.
func TestTakeAvailable(t *testing.T) {
	counts := map[uint32]uint16{6: 1, 7: 65535, 9: 2, 61: 1, 63: 9}
	d, r := with(t, 64, counts)
	s := over(t, table(t, d, r), from(r, 61, r.Free))
	wantTake(t, "behind an old count", s, false, 62)
	wantNumbers(t, "before an old count", s, 52, 52, 63)
	wantTake(t, "around the end", s, false, 8)
	wantTake(t, "behind an old count", s, false, 10)
	wantNumbers(t, "no old count", s, 50, 50, 11)

	s = over(t, table(t, d, r), from(r, 63, r.Free))
	wantTake(t, "the last block has an old count", s, false, 8)
}

// P10.1, P10.2: a block whose old count is not 0 is not taken, though its count becomes 0; it counts as free, and not as room.
func TestOldReleased(t *testing.T) {
	d, r := with(t, 64, map[uint32]uint16{6: 1, 8: 2})
	s := over(t, table(t, d, r), r)
	wantNumbers(t, "at first", s, 56, 56, 6)
	wantLess(t, "of an old 1", s, 6, 0)
	wantNumbers(t, "an old block is free", s, 57, 56, 6)
	wantLess(t, "of an old 2", s, 8, 1)
	wantNumbers(t, "an old block is not free", s, 57, 56, 6)
	wantLess(t, "of an old 2, again", s, 8, 0)
	wantNumbers(t, "two old blocks are free", s, 58, 56, 6)
	wantFaults(t, "an old block is not raised from 0", s, 6, api.ErrState, api.ErrState, api.OK)
	wantTake(t, "behind 6", s, true, 7)
	wantTake(t, "behind 8", s, true, 9)
	wantNumbers(t, "taken", s, 56, 54, 10)
	for a := uint32(10); a < 64; a++ {
		wantTake(t, "all of the room", s, true, a)
	}
	wantNumbers(t, "no room, but free blocks", s, 2, 0, 6)
	wantNone(t, "no room, but free blocks", s, true, api.ErrSpace)
}

// P10.2: an old count is raised and lowered as any other, and is neither room nor free until it is 0.
func TestOldRaised(t *testing.T) {
	d, r := with(t, 64, map[uint32]uint16{20: 1})
	s := over(t, table(t, d, r), r)
	want(t, "More(20)", s.More(20), api.OK)
	wantCount(t, "raised", s, 20, 2)
	wantNumbers(t, "raised", s, 57, 57, 6)
	wantLess(t, "lowered", s, 20, 1)
	wantNumbers(t, "lowered", s, 57, 57, 6)
	wantLess(t, "lowered", s, 20, 0)
	wantNumbers(t, "lowered to 0", s, 58, 57, 6)
}

// P10.1, P10.3: a block of the old count 0 that is taken and given back is available when the search has come around to it.
func TestTakenReleased(t *testing.T) {
	d, r := formatted(t, 64)
	s := over(t, table(t, d, r), from(r, 62, r.Free))
	wantTake(t, "the last but one", s, false, 62)
	wantLess(t, "given back", s, 62, 0)
	wantNumbers(t, "given back", s, 58, 58, 63)
	wantTake(t, "not the same at once", s, false, 63)
	for a := uint32(6); a < 62; a++ {
		wantTake(t, "around", s, true, a)
	}
	wantNumbers(t, "one remains", s, 1, 1, 62)
	wantTake(t, "come around", s, true, 62)
	wantCount(t, "come around", s, 62, 1)
	wantNone(t, "none remains", s, true, api.ErrSpace)
	want(t, "More(30)", s.More(30), api.OK)
	wantLess(t, "of 2", s, 30, 1)
	wantNone(t, "a count that is not 0", s, true, api.ErrSpace)
	wantLess(t, "of 1", s, 30, 0)
	wantNumbers(t, "one is given back", s, 1, 1, 63)
	wantTake(t, "taken again", s, true, 30)
	wantNumbers(t, "taken again", s, 0, 0, 31)
}

// P10.1, P10.3: the last 24 blocks of the room are taken for a delete alone.
func TestReserve(t *testing.T) {
	d, r := formatted(t, 64)
	for free := range uint32(60) {
		s := over(t, table(t, d, r), from(r, 6, free))
		wantNumbers(t, "at first", s, free, free, 6)
		for i := range uint32(60) {
			if free < 25+i {
				wantNone(t, fmt.Sprintf("a room of %d", free-i), s, false, api.ErrSpace)
				break
			}
			wantTake(t, "above the Reserve", s, false, 6+i)
		}
		for i := s.Hint() - 6; i < min(free, 58); i++ {
			wantTake(t, "of the Reserve", s, true, 6+i)
			wantNone(t, "of the Reserve", s, false, api.ErrSpace)
		}
		wantNone(t, "no room", s, true, api.ErrSpace)
	}
}

// P10.1, P10.3: the Reserve is that of the room, not that of the free blocks.
func TestReserveOfRoom(t *testing.T) {
	counts := map[uint32]uint16{}
	for a := uint32(6); a < 30; a++ {
		counts[a] = 1
	}
	d, r := with(t, 64, counts)
	s := over(t, table(t, d, r), r)
	for a := uint32(6); a < 30; a++ {
		wantLess(t, "an old block", s, a, 0)
	}
	wantNumbers(t, "old blocks are given back", s, 58, 34, 6)
	for a := uint32(30); a < 40; a++ {
		wantTake(t, "above the Reserve", s, false, a)
	}
	wantNone(t, "the Reserve", s, false, api.ErrSpace)
	wantNumbers(t, "the Reserve", s, 48, 24, 40)
	wantLess(t, "a fresh block", s, 33, 0)
	wantTake(t, "above the Reserve again", s, false, 40)
	wantNone(t, "the Reserve again", s, false, api.ErrSpace)
}

// P10.1, P10.3: of a root whose Free is too small no more blocks are taken than it says, of one whose Free is too great all that are available.
func TestWrongFree(t *testing.T) {
	d, r := formatted(t, 64)
	for _, free := range []uint32{0, 1, 23, 24, 25, 57, 59, 64, 1000, 1 << 20, 1 << 31, math.MaxUint32} {
		s, h := both(t, d, from(r, 40, free))
		wantSame(t, "at first", s, h)
		for range min(free, 58) {
			a, _ := h.take(true)
			wantTake(t, "a wrong Free", s, true, a)
			wantSame(t, "a wrong Free", s, h)
		}
		wantNone(t, "no block", s, true, api.ErrSpace)
		wantNone(t, "no block", s, false, api.ErrSpace)
		if free > 58 && (s.Free() != free-58 || s.Room(true) != free-58) {
			t.Errorf("Free %d, Room(true) %d, want %d, though no block is available", s.Free(), s.Room(true), free-58)
		}
	}
}

// P10.3: a Free that is too small does not become less than 0, and grows with what is given back.
func TestFreeTooSmall(t *testing.T) {
	d, r := with(t, 64, map[uint32]uint16{6: 1, 7: 1, 8: 3})
	s := over(t, table(t, d, r), from(r, 6, 0))
	wantNone(t, "a Free of 0", s, true, api.ErrSpace)
	wantLess(t, "an old block", s, 6, 0)
	wantNumbers(t, "an old block is given back", s, 1, 0, 6)
	wantNone(t, "a free block, and no room", s, true, api.ErrSpace)

	s = over(t, table(t, d, r), from(r, 6, 1))
	wantTake(t, "a Free of 1", s, true, 9)
	wantNone(t, "a Free of 1", s, true, api.ErrSpace)
	wantLess(t, "the block", s, 9, 0)
	wantNumbers(t, "given back", s, 1, 1, 10)
	wantTake(t, "a Free of 1 again", s, true, 10)
	wantNumbers(t, "a Free of 1 again", s, 0, 0, 11)
}

// P10.2: which blocks have a count.
func TestWhichBlocks(t *testing.T) {
	for _, size := range []uint32{64, 65, 200, 4096, 1 << 20} {
		f := first(size)
		d, r := with(t, size, map[uint32]uint16{f: 7, size - 1: 9})
		s := over(t, table(t, d, r), r)
		for _, a := range []uint32{0, 1, 2, f - 2, f - 1, size, size + 1, size + 63, 1 << 20, 1 << 31, math.MaxUint32} {
			wantFaults(t, fmt.Sprintf("%d blocks", size), s, a, api.ErrArg, api.ErrArg, api.ErrArg)
		}
		for a, c := range map[uint32]uint16{f: 7, size - 1: 9} {
			want(t, "More", s.More(a), api.OK)
			wantCount(t, "raised", s, a, c+1)
			wantLess(t, "lowered", s, a, c)
			wantLess(t, "lowered", s, a, c-1)
		}
		for _, a := range []uint32{f + 1, size / 2, size - 2} {
			wantFaults(t, fmt.Sprintf("%d blocks", size), s, a, api.ErrState, api.ErrState, api.OK)
		}
	}
}

// P10.2: a count goes up to 65535, one by one, and back to 0.
func TestCounts(t *testing.T) {
	d, r := formatted(t, 64)
	s := over(t, table(t, d, r), r)
	wantTake(t, "a count of 1", s, false, 6)
	for c := range uint16(65534) {
		want(t, "More(6)", s.More(6), api.OK)
		wantCount(t, "raised", s, 6, c+2)
	}
	wantFaults(t, "the greatest count", s, 6, api.ErrFull, api.OK, api.OK)
	wantCount(t, "the greatest count", s, 6, 65535)
	wantNumbers(t, "the greatest count", s, 57, 57, 7)
	for c := uint16(65535); c > 0; c-- {
		wantLess(t, "lowered", s, 6, c-1)
	}
	wantFaults(t, "the least count", s, 6, api.ErrState, api.ErrState, api.OK)
	wantNumbers(t, "the least count", s, 58, 58, 7)
}

// P10.2: old counts at the ends of their range.
func TestOldCounts(t *testing.T) {
	d, r := with(t, 64, map[uint32]uint16{10: 65535, 11: 65534, 12: 1})
	s := over(t, table(t, d, r), r)
	wantFaults(t, "an old 65535", s, 10, api.ErrFull, api.OK, api.OK)
	wantLess(t, "an old 65535", s, 10, 65534)
	want(t, "More(10)", s.More(10), api.OK)
	wantFaults(t, "65535 again", s, 10, api.ErrFull, api.OK, api.OK)
	want(t, "More(11)", s.More(11), api.OK)
	wantFaults(t, "an old 65534, raised", s, 11, api.ErrFull, api.OK, api.OK)
	wantLess(t, "an old 1", s, 12, 0)
	wantFaults(t, "an old 1, lowered", s, 12, api.ErrState, api.ErrState, api.OK)
	wantFaults(t, "no count", s, 13, api.ErrState, api.ErrState, api.OK)
}

// P10.1 to P10.3: without a space there is nothing.
func TestNoSpace(t *testing.T) {
	for what, s := range map[string]*space.Space{"no space": nil, "a zero space": new(space.Space)} {
		for _, spare := range []bool{false, true} {
			wantNone(t, what, s, spare, api.ErrNil)
			if n := s.Room(spare); n != 0 {
				t.Errorf("%s: Room(%t) is %d", what, spare, n)
			}
		}
		for _, a := range []uint32{0, 5, 6, 63, 64, math.MaxUint32} {
			wantFaults(t, what, s, a, api.ErrNil, api.ErrNil, api.ErrNil)
		}
		wantNumbers(t, what, s, 0, 0, 0)
	}
}
