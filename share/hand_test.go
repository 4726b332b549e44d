package share_test

import (
	"fmt"
	"testing"

	"pantile/api"
	"pantile/count"
	"pantile/dev"
	"pantile/node"
	"pantile/root"
	"pantile/share"
	"pantile/stage"
)

// noise is a source of numbers that are the same in each run.
type noise uint64

func (n *noise) next() uint64 {
	*n = *n*6364136223846793005 + 1442695040888963407
	return uint64(*n) ^ uint64(*n)>>33
}

func (n *noise) below(end int) int { return int(n.next() % uint64(end)) }

// block is one with any bytes.
func (n *noise) block() (b api.Block) {
	for i := range b {
		b[i] = byte(n.next())
	}
	return b
}

// full is a block of one byte.
func full(c byte) (b api.Block) {
	for i := range b {
		b[i] = c
	}
	return b
}

// nodeOf is the block of a node with these pointers, 0 for none.
func nodeOf(level uint8, pointers ...uint32) api.Block {
	n := api.Node{Level: level}
	copy(n.Ptr[:], pointers)
	b, _ := node.Put(n)
	return b
}

// disk is what a device has: its blocks, from First on, and their counts. All other blocks are zeros.
type disk struct {
	blocks map[uint32]api.Block
	counts map[uint32]uint16
}

// with is a device of n blocks, and a root, with what is on the disk.
func with(t *testing.T, n uint32, k disk) (*dev.Dev, api.Root) {
	t.Helper()
	d, _ := dev.New(n)
	r, e := root.Format(d)
	want(t, "Format", e, api.OK)
	x, e := count.Open(d, r)
	want(t, "Open", e, api.OK)
	for a, c := range k.counts {
		want(t, "Set", x.Set(a, c), api.OK)
		if c != 0 {
			r.Free--
		}
	}
	l, picks, _ := x.Seal()
	for a, b := range k.blocks {
		l = append(l, api.Put{At: a, B: b})
	}
	r.Gen, r.Picks = r.Gen+1, picks
	want(t, "Commit", root.Commit(d, l, r), api.OK)
	return d, r
}

func first(n uint32) uint32 {
	p, _ := root.Layout(n)
	return p.First
}

func over(t *testing.T, d *dev.Dev, r api.Root) *stage.Stage {
	t.Helper()
	s, e := stage.New(d, r)
	if s == nil || e != api.OK {
		t.Fatalf("New gives %v, %d", s, e)
	}
	return s
}

// hand is a stage that is kept by hand, from what is on a disk on.
type hand struct {
	size, hint uint32
	disk       map[uint32]api.Block
	old, now   map[uint32]uint16
	fresh      map[uint32]api.Block
	bad        int // which tally is not valid, or -1
}

// both are a stage over what is on a disk, with a Hint, and the same by hand.
func both(t *testing.T, n, hint uint32, k disk) (*stage.Stage, *hand) {
	t.Helper()
	d, r := with(t, n, k)
	r.Hint = hint
	return over(t, d, r), byHand(n, hint, k)
}

func byHand(n, hint uint32, k disk) *hand {
	h := &hand{size: n, hint: hint, disk: k.blocks, old: k.counts, now: map[uint32]uint16{}, fresh: map[uint32]api.Block{}, bad: -1}
	for a, c := range k.counts {
		h.now[a] = c
	}
	return h
}

// edges are the blocks around which calls have other errors.
func (h *hand) edges() []uint32 {
	f := first(h.size)
	return []uint32{0, 1, f - 1, f, h.size - 1, h.size, h.size + 1, 1 << 20, 1<<32 - 1}
}

func (h *hand) inside(a uint32) bool { return a >= first(h.size) && a < h.size }

func (h *hand) contents(a uint32) api.Block {
	if b, ok := h.fresh[a]; ok {
		return b
	}
	return h.disk[a]
}

// room is how many blocks neither the old root nor the stage has.
func (h *hand) room() (n uint32) {
	for a := first(h.size); a < h.size; a++ {
		if h.old[a] == 0 && h.now[a] == 0 {
			n++
		}
	}
	return n
}

// count is the error of any call that counts a block.
func (h *hand) count(a uint32) api.Errno {
	switch {
	case !h.inside(a):
		return api.ErrArg
	case int(a/64) == h.bad:
		return api.ErrBad
	}
	return api.OK
}

func (h *hand) more(a uint32) api.Errno {
	switch e := h.count(a); {
	case e != api.OK:
		return e
	case h.now[a] == 0:
		return api.ErrState
	case h.now[a] == 65535:
		return api.ErrFull
	}
	h.now[a]++
	return api.OK
}

func (h *hand) less(a uint32) api.Errno {
	switch e := h.count(a); {
	case e != api.OK:
		return e
	case h.now[a] == 0:
		return api.ErrState
	}
	h.now[a]--
	if h.now[a] == 0 {
		delete(h.fresh, a)
	}
	return api.OK
}

func (h *hand) take(b api.Block, spare bool) (uint32, api.Errno) {
	if n := h.room(); n == 0 || n <= api.Reserve && !spare {
		return 0, api.ErrSpace
	}
	for {
		a := h.hint
		if h.count(a) == api.ErrBad {
			return 0, api.ErrBad
		}
		if h.hint++; h.hint == h.size {
			h.hint = first(h.size)
		}
		if h.old[a] == 0 && h.now[a] == 0 {
			h.now[a], h.fresh[a] = 1, b
			return a, api.OK
		}
	}
}

// put writes to a fresh block.
func (h *hand) put(a uint32, b api.Block) { h.fresh[a] = b }

// pointers are those of a block of a level that are not 0, if it is one. They are taken from the bytes of the block.
func (h *hand) pointers(a uint32, level uint8) ([]uint32, api.Errno) {
	switch {
	case level > 3:
		return nil, api.ErrArg
	case !h.inside(a):
		return nil, api.ErrArg
	case level == 0:
		return nil, api.OK
	}
	b := h.contents(a)
	if _, e := node.Get(b); e != api.OK || b[1] != level {
		return nil, api.ErrBad
	}
	var l []uint32
	for i := 2; i < 2+32*4; i += 4 {
		if p := uint32(b[i]) | uint32(b[i+1])<<8 | uint32(b[i+2])<<16; p != 0 {
			l = append(l, p)
		}
	}
	return l, api.OK
}

func (h *hand) own(a uint32, level uint8) (uint32, api.Errno) {
	l, e := h.pointers(a, level)
	if e == api.OK {
		e = h.count(a)
	}
	if e == api.OK && h.now[a] == 0 {
		e = api.ErrState
	}
	if e != api.OK {
		return 0, e
	}
	shared := h.now[a] > 1
	if _, ok := h.fresh[a]; ok && !shared {
		return a, api.OK
	}
	c, e := h.take(h.contents(a), false)
	if e != api.OK {
		return 0, e
	}
	for _, p := range l {
		if !shared {
			break
		}
		if e := h.more(p); e != api.OK {
			return 0, e
		}
	}
	return c, h.less(a)
}

func (h *hand) release(a uint32, level uint8) api.Errno {
	l, e := h.pointers(a, level)
	if e == api.OK {
		e = h.less(a)
	}
	if e != api.OK || h.now[a] != 0 {
		return e
	}
	for _, p := range l {
		if e := h.release(p, level-1); e != api.OK {
			return e
		}
	}
	return api.OK
}

func want(t *testing.T, what string, got, want api.Errno) {
	t.Helper()
	if got != want {
		t.Errorf("%s: error %d, want %d", what, got, want)
	}
}

// wantSame asks that a stage is what it is by hand: its numbers, and of each block the contents, the count, and whether it is fresh.
func wantSame(t *testing.T, what string, s *stage.Stage, h *hand) {
	t.Helper()
	free := uint32(0)
	for a := first(h.size); a < h.size; a++ {
		if b, e := s.Read(a); b != h.contents(a) || e != api.OK {
			t.Errorf("%s: Read(%d) gives %x.., %d, want %x..", what, a, b[:4], e, h.contents(a))
		}
		if _, ok := h.fresh[a]; s.Fresh(a) != ok {
			t.Errorf("%s: Fresh(%d) is %t", what, a, !ok)
		}
		if h.now[a] == 0 {
			free++
		}
		if int(a/64) != h.bad {
			wantCount(t, what, s, a, h.now[a])
		}
	}
	if room := h.room(); s.Free() != free || s.Room(true) != room {
		t.Errorf("%s: Free %d, Room(true) %d, want %d, %d", what, s.Free(), s.Room(true), free, room)
	}
}

func wantCount(t *testing.T, what string, s *stage.Stage, a uint32, c uint16) {
	t.Helper()
	if n, e := s.Count(a); n != c || e != api.OK {
		t.Errorf("%s: Count(%d) gives %d, %d, want %d", what, a, n, e, c)
	}
}

// wantCounts asks for the counts of the blocks from First on, of as many as are given.
func wantCounts(t *testing.T, what string, s *stage.Stage, counts ...uint16) {
	t.Helper()
	for i, c := range counts {
		wantCount(t, what, s, first(s.Root().Size)+uint32(i), c)
	}
}

// wantOwn asks for an owned block.
func wantOwn(t *testing.T, what string, s *stage.Stage, a uint32, level uint8, own uint32) {
	t.Helper()
	b, _ := s.Read(a)
	if got, e := share.Own(s, a, level); got != own || e != api.OK {
		t.Errorf("%s: Own(%d, %d) gives %d, %d, want %d", what, a, level, got, e, own)
	}
	if c, e := s.Read(own); c != b || e != api.OK || !s.Fresh(own) {
		t.Errorf("%s: the owned block %d has %x.., %d, want %x..; Fresh is %t", what, own, c[:4], e, b[:4], s.Fresh(own))
	}
	wantCount(t, what, s, own, 1)
}

// wantNoOwn asks for an error of Own (R3).
func wantNoOwn(t *testing.T, what string, s *stage.Stage, a uint32, level uint8, fault api.Errno) {
	t.Helper()
	if got, e := share.Own(s, a, level); got != 0 || e != fault {
		t.Errorf("%s: Own(%d, %d) gives %d, %d, want error %d", what, a, level, got, e, fault)
	}
}

// wantKids asks for the pointers of a block, twice (R4), which are new memory each time (R5).
func wantKids(t *testing.T, what string, s *stage.Stage, a uint32, level uint8, pointers []uint32, fault api.Errno) {
	t.Helper()
	for range 2 {
		l, e := share.Kids(s, a, level)
		if e != fault || fmt.Sprint(l) != fmt.Sprint(pointers) {
			t.Errorf("%s: Kids(%d, %d) gives %d, %d, want %d, %d", what, a, level, l, e, pointers, fault)
		}
		for i := range l[:cap(l)] {
			l[:cap(l)][i] = 77
		}
	}
}

// wantRelease asks for the answer of Release.
func wantRelease(t *testing.T, what string, s *stage.Stage, a uint32, level uint8, fault api.Errno) {
	t.Helper()
	want(t, fmt.Sprintf("%s: Release(%d, %d)", what, a, level), share.Release(s, a, level), fault)
}

// wantFault asks for the same error of all calls on a block of a level, twice (R4).
func wantFault(t *testing.T, what string, s *stage.Stage, a uint32, level uint8, fault api.Errno) {
	t.Helper()
	for range 2 {
		wantNoOwn(t, what, s, a, level, fault)
		wantRelease(t, what, s, a, level, fault)
		wantKids(t, what, s, a, level, nil, fault)
	}
}

// wantNew makes a block.
func wantNew(t *testing.T, s *stage.Stage, b api.Block, block uint32) {
	t.Helper()
	if a, e := s.New(b, false); a != block || e != api.OK {
		t.Fatalf("New gives %d, %d, want %d", a, e, block)
	}
}

// wantBoth makes a block of a stage, and by hand. It returns the block.
func wantBoth(t *testing.T, s *stage.Stage, h *hand, b api.Block, spare bool) uint32 {
	t.Helper()
	block, fault := h.take(b, spare)
	if a, e := s.New(b, spare); a != block || e != fault {
		t.Fatalf("New gives %d, %d, want %d, %d", a, e, block, fault)
	}
	return block
}
