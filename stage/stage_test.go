package stage_test

import (
	"fmt"
	"math"
	"testing"

	"pantile/api"
	"pantile/count"
	"pantile/dev"
	"pantile/root"
	"pantile/slot"
	"pantile/space"
	"pantile/stage"
)

// noise is a source of numbers that are the same in each run.
type noise uint64

func (n *noise) next() uint64 {
	*n = *n*6364136223846793005 + 1442695040888963407
	return uint64(*n) ^ uint64(*n)>>33
}

func (n *noise) below(end int) int { return int(n.next() % uint64(end)) }

// block is one with any bytes.
func (n *noise) block() (b api.Block) {
	for i := range b {
		b[i] = byte(n.next())
	}
	return b
}

// full is a block of one byte.
func full(c byte) (b api.Block) {
	for i := range b {
		b[i] = c
	}
	return b
}

// formatted is a device of n blocks behind a format.
func formatted(t *testing.T, n uint32) (*dev.Dev, api.Root) {
	t.Helper()
	d, _ := dev.New(n)
	r, e := root.Format(d)
	if e != api.OK {
		t.Fatalf("Format gives %d", e)
	}
	return d, r
}

// with is a device of n blocks, each of which has other contents from First on, and a root that has these counts, and the Free that belongs to them.
func with(t *testing.T, n uint32, counts map[uint32]uint16) (*dev.Dev, api.Root) {
	t.Helper()
	d, r := formatted(t, n)
	x := table(t, d, r)
	for a, c := range counts {
		want(t, "Set", x.Set(a, c), api.OK)
		if c != 0 {
			r.Free--
		}
	}
	l, picks, _ := x.Seal()
	for a := first(n); a < n; a++ {
		l = append(l, api.Put{At: a, B: old(a)})
	}
	r.Gen, r.Picks = r.Gen+1, picks
	want(t, "Commit", root.Commit(d, l, r), api.OK)
	return d, r
}

// old is what a block has on a device that with returned.
func old(a uint32) api.Block {
	n := noise(a)
	return n.block()
}

// from is a root with another Hint, and with another Free.
func from(r api.Root, hint, free uint32) api.Root {
	r.Hint, r.Free = hint, free
	return r
}

// but is r, changed.
func but(r api.Root, change func(r *api.Root)) api.Root {
	change(&r)
	return r
}

func first(n uint32) uint32 {
	p, _ := root.Layout(n)
	return p.First
}

func table(t *testing.T, d *dev.Dev, r api.Root) *count.Table {
	t.Helper()
	x, e := count.Open(d, r)
	if x == nil || e != api.OK {
		t.Fatalf("Open gives %v, %d", x, e)
	}
	return x
}

func over(t *testing.T, d *dev.Dev, r api.Root) *stage.Stage {
	t.Helper()
	s, e := stage.New(d, r)
	if s == nil || e != api.OK {
		t.Fatalf("New gives %v, %d", s, e)
	}
	return s
}

// hand is a stage that is kept by hand, on a device of its own.
type hand struct {
	d        *dev.Dev
	r        api.Root
	x        *count.Table
	s        *space.Space
	fresh    map[uint32]api.Block
	finished bool
}

// byHand is over an equal device.
func byHand(t *testing.T, d *dev.Dev, r api.Root) *hand {
	t.Helper()
	c := d.Copy()
	x := table(t, c, r)
	s, e := space.New(x, r)
	want(t, "New of a space", e, api.OK)
	return &hand{c, r, x, s, map[uint32]api.Block{}, false}
}

// both are a stage, and the same by hand.
func both(t *testing.T, d *dev.Dev, r api.Root) (*stage.Stage, *hand) {
	t.Helper()
	return over(t, d, r), byHand(t, d, r)
}

func (h *hand) read(a uint32) (api.Block, api.Errno) {
	switch {
	case h.finished:
		return api.Block{}, api.ErrState
	case a < first(h.r.Size) || a >= h.r.Size:
		return api.Block{}, api.ErrArg
	}
	if b, ok := h.fresh[a]; ok {
		return b, api.OK
	}
	return h.d.Read(a)
}

func (h *hand) isFresh(a uint32) bool {
	_, ok := h.fresh[a]
	return ok && !h.finished
}

func (h *hand) make(b api.Block, spare bool) (uint32, api.Errno) {
	if h.finished {
		return 0, api.ErrState
	}
	a, e := h.s.Take(spare)
	if e == api.OK {
		h.fresh[a] = b
	}
	return a, e
}

func (h *hand) put(a uint32, b api.Block) api.Errno {
	if !h.isFresh(a) {
		return api.ErrState
	}
	h.fresh[a] = b
	return api.OK
}

func (h *hand) count(a uint32) (uint16, api.Errno) {
	if h.finished {
		return 0, api.ErrState
	}
	return h.s.Count(a)
}

func (h *hand) more(a uint32) api.Errno {
	if h.finished {
		return api.ErrState
	}
	return h.s.More(a)
}

func (h *hand) less(a uint32) (uint16, api.Errno) {
	if h.finished {
		return 0, api.ErrState
	}
	c, e := h.s.Less(a)
	if e == api.OK && c == 0 {
		delete(h.fresh, a)
	}
	return c, e
}

// next is the root that a commit with these numbers writes, and whether it is one.
func (h *hand) next(names uint32, vols uint8, next uint32) (api.Root, bool) {
	_, picks, _ := h.x.Seal()
	r := api.Root{Gen: h.r.Gen + 1, Size: h.r.Size, Picks: picks, Names: names, Free: h.s.Free(), Next: next, Hint: h.s.Hint(), Vols: vols}
	p, _ := root.Layout(r.Size)
	return r, slot.May(r) && r.Picks>>p.Picks == 0 && r.Free <= r.Size-p.First
}

// puts are the blocks that a commit writes ahead of the root, in order.
func (h *hand) puts() []api.Put {
	var l []api.Put
	for a := range h.r.Size {
		if b, ok := h.fresh[a]; ok {
			l = append(l, api.Put{At: a, B: b})
		}
	}
	pages, _, _ := h.x.Seal()
	return append(l, pages...)
}

// commit does to the device of h what the chapters say, one write after the other.
func (h *hand) commit(names uint32, vols uint8, next uint32) (api.Root, api.Errno) {
	if h.finished {
		return api.Root{}, api.ErrState
	}
	r, ok := h.next(names, vols, next)
	if !ok {
		return api.Root{}, api.ErrArg
	}
	h.finished = true
	b, _ := slot.Put(r)
	for _, p := range h.puts() {
		if h.d.Write(p.At, p.B) != api.OK {
			return api.Root{}, api.ErrDown
		}
	}
	if h.d.Flush() != api.OK || h.d.Write(uint32(r.Gen%2), b) != api.OK || h.d.Flush() != api.OK {
		return api.Root{}, api.ErrDown
	}
	return r, api.OK
}

func want(t *testing.T, what string, got, want api.Errno) {
	t.Helper()
	if got != want {
		t.Errorf("%s: error %d, want %d", what, got, want)
	}
}

// wantDevice asks that two devices have the same blocks and the same pending writes, and have had the same number of writes and flushes.
func wantDevice(t *testing.T, what string, d, c *dev.Dev) {
	t.Helper()
	if d.Pending() != c.Pending() || d.Writes() != c.Writes() || d.Down() != c.Down() {
		t.Errorf("%s: %d pending, %d writes, down: %t, want %d, %d, %t", what, d.Pending(), d.Writes(), d.Down(), c.Pending(), c.Writes(), c.Down())
		return
	}
	wantBlocks(t, what, d, c)
	for i := range d.Pending() {
		x, y := d.Copy(), c.Copy()
		x.Crash([]api.Keep{{At: uint16(i), Sectors: 15}})
		y.Crash([]api.Keep{{At: uint16(i), Sectors: 15}})
		wantBlocks(t, fmt.Sprintf("%s: the pending write %d", what, i), x, y)
	}
}

func wantBlocks(t *testing.T, what string, d, c *dev.Dev) {
	t.Helper()
	for a := range d.Size() {
		x, _ := d.Read(a)
		if y, _ := c.Read(a); x != y {
			t.Errorf("%s: the block %d is %x.., want %x..", what, a, x[:4], y[:4])
		}
	}
}

// wantSame asks that a stage is what it is by hand: its root and numbers, and of each of these blocks (of all if there are none) the contents, the count, and whether it is fresh. All is asked twice (R4).
func wantSame(t *testing.T, what string, s *stage.Stage, h *hand, blocks ...uint32) {
	t.Helper()
	if blocks == nil {
		for a := range h.r.Size + 2 {
			blocks = append(blocks, a)
		}
	}
	for range 2 {
		wantNumbers(t, what, s, h)
		for _, a := range blocks {
			wantBlock(t, what, s, h, a)
		}
	}
}

func wantNumbers(t *testing.T, what string, s *stage.Stage, h *hand) {
	t.Helper()
	if r := s.Root(); r != h.r {
		t.Errorf("%s: Root gives %v, want %v", what, r, h.r)
	}
	free, room, less := h.s.Free(), h.s.Room(true), h.s.Room(false)
	if h.finished {
		free, room, less = 0, 0, 0
	}
	if s.Free() != free || s.Room(true) != room || s.Room(false) != less {
		t.Errorf("%s: Free %d, Room(true) %d, Room(false) %d, want %d, %d, %d", what, s.Free(), s.Room(true), s.Room(false), free, room, less)
	}
}

func wantBlock(t *testing.T, what string, s *stage.Stage, h *hand, a uint32) {
	t.Helper()
	b, fault := h.read(a)
	if got, e := s.Read(a); got != b || e != fault {
		t.Errorf("%s: Read(%d) gives %x.., %d, want %x.., %d", what, a, got[:4], e, b[:4], fault)
	}
	c, fault := h.count(a)
	if got, e := s.Count(a); got != c || e != fault {
		t.Errorf("%s: Count(%d) gives %d, %d, want %d, %d", what, a, got, e, c, fault)
	}
	if got := s.Fresh(a); got != h.isFresh(a) {
		t.Errorf("%s: Fresh(%d) is %t", what, a, got)
	}
}

// wantNew asks for the block that is taken.
func wantNew(t *testing.T, what string, s *stage.Stage, b api.Block, spare bool, block uint32) {
	t.Helper()
	if a, e := s.New(b, spare); a != block || e != api.OK {
		t.Errorf("%s: New gives %d, %d, want %d", what, a, e, block)
	}
	wantRead(t, what, s, block, b)
	if !s.Fresh(block) {
		t.Errorf("%s: the block %d is not fresh", what, block)
	}
}

// wantNone asks for an error of New, which makes nothing (R3), twice (R4).
func wantNone(t *testing.T, what string, s *stage.Stage, spare bool, fault api.Errno) {
	t.Helper()
	for range 2 {
		if a, e := s.New(full(1), spare); a != 0 || e != fault {
			t.Errorf("%s: New gives %d, %d, want error %d", what, a, e, fault)
		}
	}
}

func wantRead(t *testing.T, what string, s *stage.Stage, a uint32, b api.Block) {
	t.Helper()
	if got, e := s.Read(a); got != b || e != api.OK {
		t.Errorf("%s: Read(%d) gives %x.., %d, want %x..", what, a, got[:4], e, b[:4])
	}
}

func wantCount(t *testing.T, what string, s *stage.Stage, a uint32, c uint16) {
	t.Helper()
	if n, e := s.Count(a); n != c || e != api.OK {
		t.Errorf("%s: Count(%d) gives %d, %d, want %d", what, a, n, e, c)
	}
}

func wantLess(t *testing.T, what string, s *stage.Stage, a uint32, c uint16) {
	t.Helper()
	if n, e := s.Less(a); n != c || e != api.OK {
		t.Errorf("%s: Less(%d) gives %d, %d, want %d", what, a, n, e, c)
	}
}

// wantNoLess asks for an error of Less (R3).
func wantNoLess(t *testing.T, what string, s *stage.Stage, a uint32, fault api.Errno) {
	t.Helper()
	if n, e := s.Less(a); n != 0 || e != fault {
		t.Errorf("%s: Less(%d) gives %d, %d, want error %d", what, a, n, e, fault)
	}
}

// The chapter's examples.
func TestExamples(t *testing.T) {
	d, r := formatted(t, 64)
	s := over(t, d, r)
	wantNew(t, "the first one", s, full('a'), false, 6)
	wantRead(t, "the first one", s, 6, full('a'))
	if !s.Fresh(6) {
		t.Error("6 is not fresh")
	}
	want(t, "Put(7)", s.Put(7, full('a')), api.ErrState)
	if b, e := d.Read(6); b != (api.Block{}) || e != api.OK {
		t.Errorf("the device has %x, %d", b, e)
	}
	now := api.Root{Gen: 2, Size: 64, Picks: 1, Names: 6, Free: 57, Next: 2, Hint: 7, Vols: 1}
	if r, e := s.Commit(6, 1, 2); r != now || e != api.OK {
		t.Errorf("Commit gives %v, %d", r, e)
	}
	if r, e := root.Mount(d); r != now || e != api.OK {
		t.Errorf("Mount gives %v, %d", r, e)
	}
	if b, e := d.Read(6); b != full('a') || e != api.OK {
		t.Errorf("the device has %x, %d", b, e)
	}
	wantNone(t, "committed", s, false, api.ErrState)
}

// P11.1: a stage is over a device, whatever the root.
func TestNewNil(t *testing.T) {
	_, r := formatted(t, 64)
	for what, d := range map[string]*dev.Dev{"no device": nil, "a zero device": new(dev.Dev)} {
		for _, r := range []api.Root{r, {}, {Size: 64}, from(r, 5, 58), {Size: math.MaxUint32}} {
			if s, e := stage.New(d, r); s != nil || e != api.ErrNil {
				t.Errorf("%s: New gives %v, %d, want ErrNil", what, s, e)
			}
		}
	}
}

// P11.1: which roots are valid for a device, by layers 9 and 10: their Size is the device's, and their Hint is a block that is allocated.
func TestNewArg(t *testing.T) {
	for _, n := range []uint32{64, 65, 200, 70000, 1 << 20} {
		d, r := formatted(t, n)
		for _, size := range []uint32{0, 1, 63, 64, 65, n - 1, n, n + 1, 1 << 20, 1<<20 + 1, math.MaxUint32} {
			for _, hint := range []uint32{0, 1, 5, first(n) - 1, first(n), n - 1, n, n + 1, math.MaxUint32} {
				x := from(r, hint, r.Free)
				x.Size = size
				fault := api.ErrArg
				if size == n && hint >= first(n) && hint < n {
					fault = api.OK
				}
				for range 2 {
					if s, e := stage.New(d, x); e != fault || (s == nil) != (e != api.OK) {
						t.Errorf("New on %d blocks of a root of Size %d and Hint %d gives %v, %d, want %d", n, size, hint, s, e, fault)
					}
				}
			}
		}
	}
}

// P11.1: layers 9 and 10 ask for nothing else of a root, and no page is read yet, so that a stage begins, too, where layer 8 would not.
func TestNewOther(t *testing.T) {
	n := noise(1)
	d, r := formatted(t, 64)
	n.spoil(d, 1, 0)
	n.spoilPick(d, 0)
	for _, x := range []api.Root{
		but(r, func(r *api.Root) { r.Gen = 0 }),
		but(r, func(r *api.Root) { r.Gen = math.MaxUint64 }),
		but(r, func(r *api.Root) { r.Picks = math.MaxUint32 }),
		but(r, func(r *api.Root) { r.Names, r.Next, r.Vols = math.MaxUint32, 0, 255 }),
		but(r, func(r *api.Root) { r.Names = 9 }),
		but(r, func(r *api.Root) { r.Free = 59 }),
		{Size: 64, Hint: 6},
		{Size: 64, Hint: 63, Free: math.MaxUint32},
	} {
		s := over(t, d, x)
		if s.Root() != x || s.Free() != x.Free {
			t.Errorf("Root %v, Free %d, want %v", s.Root(), s.Free(), x)
		}
	}
}

// edges are the blocks around which calls have other errors.
func edges(n uint32) []uint32 {
	f := first(n)
	return []uint32{0, 1, 2, f - 2, f - 1, f, f + 1, n / 2, n - 2, n - 1, n, n + 1, n + 63, 1 << 20, 1 << 31, math.MaxUint32}
}

// P11.1 to P11.3: each call on each block around the edges, when none of them is fresh, when all are, and when they are given back.
func TestWhichBlocks(t *testing.T) {
	for _, n := range []uint32{64, 65, 200, 4096} {
		f := first(n)
		d, r := with(t, n, nil)
		s := over(t, d, r)
		inside := func(a uint32) bool { return a >= f && a < n }
		for _, a := range edges(n) {
			b, fault := old(a), api.OK
			if !inside(a) {
				b, fault = api.Block{}, api.ErrArg
			}
			if got, e := s.Read(a); got != b || e != fault {
				t.Errorf("not fresh: Read(%d) gives %x.., %d, want %x.., %d", a, got[:4], e, b[:4], fault)
			}
			if s.Fresh(a) {
				t.Errorf("not fresh: Fresh(%d)", a)
			}
			want(t, fmt.Sprintf("not fresh: Put(%d)", a), s.Put(a, full(1)), api.ErrState)
			if c, e := s.Count(a); c != 0 || e != fault {
				t.Errorf("not fresh: Count(%d) gives %d, %d, want 0, %d", a, c, e, fault)
			}
			if fault == api.OK {
				fault = api.ErrState
			}
			want(t, fmt.Sprintf("not fresh: More(%d)", a), s.More(a), fault)
			wantNoLess(t, "not fresh", s, a, fault)
		}
		for a := f; a < n; a++ {
			wantNew(t, "all of them", s, full(byte(a)), true, a)
		}
		for _, a := range edges(n) {
			if !inside(a) {
				if b, e := s.Read(a); b != (api.Block{}) || e != api.ErrArg || s.Fresh(a) {
					t.Errorf("Read(%d) gives %x.., %d, Fresh is %t", a, b[:4], e, s.Fresh(a))
				}
				want(t, fmt.Sprintf("Put(%d)", a), s.Put(a, full(1)), api.ErrState)
				want(t, fmt.Sprintf("More(%d)", a), s.More(a), api.ErrArg)
				wantNoLess(t, "outside", s, a, api.ErrArg)
				continue
			}
			wantRead(t, "fresh", s, a, full(byte(a)))
			want(t, fmt.Sprintf("fresh: Put(%d)", a), s.Put(a, full(^byte(a))), api.OK)
			wantRead(t, "put", s, a, full(^byte(a)))
			want(t, fmt.Sprintf("fresh: More(%d)", a), s.More(a), api.OK)
			wantCount(t, "fresh", s, a, 2)
			wantLess(t, "fresh", s, a, 1)
			if !s.Fresh(a) {
				t.Errorf("of count 1, and not fresh: %d", a)
			}
			wantLess(t, "fresh", s, a, 0)
			wantGivenBack(t, s, a)
		}
		if d.Pending() != 0 {
			t.Errorf("%d writes are pending", d.Pending())
		}
	}
}

// wantGivenBack asks that a block is as it was ahead of the stage.
func wantGivenBack(t *testing.T, s *stage.Stage, a uint32) {
	t.Helper()
	if s.Fresh(a) {
		t.Errorf("of count 0, and fresh: %d", a)
	}
	want(t, fmt.Sprintf("of count 0: Put(%d)", a), s.Put(a, full(1)), api.ErrState)
	wantRead(t, "of count 0", s, a, old(a))
	wantCount(t, "of count 0", s, a, 0)
	want(t, fmt.Sprintf("of count 0: More(%d)", a), s.More(a), api.ErrState)
	wantNoLess(t, "of count 0", s, a, api.ErrState)
}

// P11.2, P11.3: a block that was fresh, and whose count became 0, is taken again, when the search comes around: then it is fresh again, with its new contents.
func TestFreshAgain(t *testing.T) {
	d, r := with(t, 64, nil)
	s := over(t, d, from(r, 63, 58))
	wantNew(t, "at the end", s, full(1), false, 63)
	wantNew(t, "around", s, full(2), false, 6)
	wantLess(t, "given back", s, 63, 0)
	wantGivenBack(t, s, 63)
	for a := uint32(7); a < 63; a++ {
		wantNew(t, "the others", s, full(3), true, a)
	}
	wantNew(t, "again", s, full(4), true, 63)
	wantCount(t, "again", s, 63, 1)
	want(t, "Put(63)", s.Put(63, full(5)), api.OK)
	wantRead(t, "put again", s, 63, full(5))
	wantRead(t, "the first one", s, 6, full(2))
	wantNone(t, "no room", s, true, api.ErrSpace)
	wantLess(t, "given back", s, 63, 0)
	wantGivenBack(t, s, 63)
	wantNew(t, "once more", s, full(6), true, 63)
}

// P11.3: a block of the old root is not fresh, whatever its count; of count 0 it can be read yet, but is not taken.
func TestOldBlocks(t *testing.T) {
	d, r := with(t, 64, map[uint32]uint16{6: 1, 7: 2, 63: 65535})
	s := over(t, d, r)
	for a, c := range map[uint32]uint16{6: 1, 7: 2, 63: 65535} {
		wantCount(t, "an old count", s, a, c)
		wantRead(t, "an old block", s, a, old(a))
		want(t, "Put of an old block", s.Put(a, full(1)), api.ErrState)
		if s.Fresh(a) {
			t.Errorf("an old block is fresh: %d", a)
		}
	}
	want(t, "More(63)", s.More(63), api.ErrFull)
	want(t, "More(7)", s.More(7), api.OK)
	wantCount(t, "raised", s, 7, 3)
	if s.Free() != 55 || s.Room(true) != 55 || s.Room(false) != 31 {
		t.Errorf("Free %d, Room(true) %d, Room(false) %d", s.Free(), s.Room(true), s.Room(false))
	}
	wantLess(t, "lowered to 0", s, 6, 0)
	if s.Free() != 56 || s.Room(true) != 55 || s.Room(false) != 31 {
		t.Errorf("lowered to 0: Free %d, Room(true) %d, Room(false) %d", s.Free(), s.Room(true), s.Room(false))
	}
	wantRead(t, "lowered to 0", s, 6, old(6))
	want(t, "Put of count 0", s.Put(6, full(1)), api.ErrState)
	want(t, "More of count 0", s.More(6), api.ErrState)
	for a := uint32(8); a < 63; a++ {
		wantNew(t, "around those of the old root", s, full(byte(a)), true, a)
	}
	wantNone(t, "no room", s, true, api.ErrSpace)
	for a := uint32(8); a < 63; a++ {
		wantRead(t, "all others", s, a, full(byte(a)))
	}
}

// P11.2: the last blocks of the room are for deletes alone; a New that finds none makes no block fresh.
func TestReserve(t *testing.T) {
	d, r := with(t, 64, nil)
	for free := range uint32(59) {
		s, h := both(t, d, from(r, 6, free))
		for range uint32(60) {
			a, fault := h.make(full(1), false)
			if got, e := s.New(full(1), false); got != a || e != fault {
				t.Errorf("New gives %d, %d, want %d, %d", got, e, a, fault)
			}
			if fault == api.ErrSpace {
				break
			}
		}
		wantSame(t, "the Reserve", s, h)
		for range min(free, 24) {
			wantNone(t, "the Reserve", s, false, api.ErrSpace)
			a, _ := h.make(full(2), true)
			wantNew(t, "the Reserve", s, full(2), true, a)
		}
		wantNone(t, "no room", s, false, api.ErrSpace)
		wantNone(t, "no room", s, true, api.ErrSpace)
		wantSame(t, "no room", s, h)
	}
}

// P11.3: the count of a fresh block goes up to 65535, and back to 0.
func TestCounts(t *testing.T) {
	d, r := formatted(t, 64)
	s := over(t, d, r)
	wantNew(t, "a count of 1", s, full(1), false, 6)
	for c := range uint16(65534) {
		want(t, "More(6)", s.More(6), api.OK)
		wantCount(t, "raised", s, 6, c+2)
	}
	want(t, "More of 65535", s.More(6), api.ErrFull)
	want(t, "Put of 65535", s.Put(6, full(2)), api.OK)
	for c := uint16(65535); c > 0; c-- {
		if !s.Fresh(6) {
			t.Fatalf("with the count %d the block is not fresh", c)
		}
		wantLess(t, "lowered", s, 6, c-1)
	}
	if s.Fresh(6) || s.Free() != 58 {
		t.Errorf("Fresh is %t, Free is %d", s.Fresh(6), s.Free())
	}
}

// P11.1: what is read of a block that is not fresh is what the device returns then; of a fresh one it is not.
func TestReadDevice(t *testing.T) {
	d, r := with(t, 64, map[uint32]uint16{9: 1})
	s := over(t, d, r)
	wantNew(t, "fresh", s, full(1), false, 6)
	for i, a := range []uint32{6, 7, 9, 63} {
		d.Write(a, full(byte(10+i)))
	}
	wantRead(t, "fresh, and written over", s, 6, full(1))
	wantRead(t, "free, and written over", s, 7, full(11))
	wantRead(t, "old, and written over", s, 9, full(12))
	wantRead(t, "the last one, written over", s, 63, full(13))
	wantLess(t, "given back", s, 6, 0)
	wantRead(t, "given back", s, 6, full(10))
	d.Crash(nil)
	wantRead(t, "lost", s, 6, old(6))
	wantRead(t, "lost", s, 9, old(9))
	d.Fuse(0)
	d.Flush()
	wantNew(t, "on a device that is down", s, full(2), false, 7)
	wantRead(t, "on a device that is down", s, 9, old(9))
	want(t, "Put", s.Put(7, full(3)), api.OK)
	wantRead(t, "on a device that is down", s, 7, full(3))
}

// R5: what was read is not what the stage has, and contents that were given are not kept.
func TestNewMemory(t *testing.T) {
	d, r := formatted(t, 64)
	s := over(t, d, r)
	b := full(1)
	wantNew(t, "given", s, b, false, 6)
	b[0] = 2
	wantRead(t, "changed since", s, 6, full(1))
	b, _ = s.Read(6)
	b[0] = 3
	wantRead(t, "changed since", s, 6, full(1))
	x := s.Root()
	x.Gen = 9
	if s.Root() != r {
		t.Errorf("Root is %v", s.Root())
	}
}

// P11.1 to P11.4: without a stage there is nothing.
func TestNoStage(t *testing.T) {
	for what, s := range map[string]*stage.Stage{"no stage": nil, "a zero stage": new(stage.Stage)} {
		if r := s.Root(); r != (api.Root{}) {
			t.Errorf("%s: Root gives %v", what, r)
		}
		for _, a := range []uint32{0, 5, 6, 63, 64, math.MaxUint32} {
			wantAll(t, what, s, a, api.ErrNil)
		}
	}
}

// wantAll asks for the same error of each call, and for nothing else (R3), twice (R4).
func wantAll(t *testing.T, what string, s *stage.Stage, a uint32, fault api.Errno) {
	t.Helper()
	for range 2 {
		if b, e := s.Read(a); b != (api.Block{}) || e != fault {
			t.Errorf("%s: Read(%d) gives %x.., %d, want error %d", what, a, b[:4], e, fault)
		}
		if s.Fresh(a) {
			t.Errorf("%s: Fresh(%d)", what, a)
		}
		wantNone(t, what, s, false, fault)
		wantNone(t, what, s, true, fault)
		want(t, what+": Put", s.Put(a, full(1)), fault)
		if c, e := s.Count(a); c != 0 || e != fault {
			t.Errorf("%s: Count(%d) gives %d, %d, want error %d", what, a, c, e, fault)
		}
		want(t, what+": More", s.More(a), fault)
		wantNoLess(t, what, s, a, fault)
		if s.Free() != 0 || s.Room(false) != 0 || s.Room(true) != 0 {
			t.Errorf("%s: Free %d, Room(false) %d, Room(true) %d", what, s.Free(), s.Room(false), s.Room(true))
		}
		wantNoCommit(t, what, s, 6, 1, 2, fault)
		wantNoCommit(t, what, s, 0, 1, 0, fault)
	}
}

// wantNoCommit asks for an error of Commit (R3).
func wantNoCommit(t *testing.T, what string, s *stage.Stage, names uint32, vols uint8, next uint32, fault api.Errno) {
	t.Helper()
	if r, e := s.Commit(names, vols, next); r != (api.Root{}) || e != fault {
		t.Errorf("%s: Commit(%d, %d, %d) gives %v, %d, want error %d", what, names, vols, next, r, e, fault)
	}
}
