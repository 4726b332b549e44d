package stage_test

import (
	"fmt"
	"maps"
	"slices"
	"testing"

	"pantile/api"
	"pantile/dev"
	"pantile/root"
	"pantile/stage"
)

// keeps are any sectors of any pending writes, in any order, some of them twice.
func (n *noise) keeps(pending int) []api.Keep {
	var l []api.Keep
	for range n.below(2*pending + 2) {
		l = append(l, api.Keep{At: uint16(n.below(pending + 1)), Sectors: uint8(n.next())})
	}
	return l
}

// sets are lists of keeps: nothing, all that is pending, also from its end on, each set of sectors of all, each write alone, and each one left out.
func sets(pending int) [][]api.Keep {
	l := [][]api.Keep{nil}
	for sectors := uint8(1); sectors < 16; sectors++ {
		l = append(l, some(pending, sectors, func(int) bool { return true }))
	}
	back := slices.Clone(l[len(l)-1])
	slices.Reverse(back)
	l = append(l, back)
	for i := range pending {
		l = append(l, some(pending, 15, func(at int) bool { return at == i }), some(pending, 15, func(at int) bool { return at != i }))
	}
	return l
}

// some are these sectors of those pending writes that are kept.
func some(pending int, sectors uint8, kept func(at int) bool) []api.Keep {
	var l []api.Keep
	for i := range pending {
		if kept(i) {
			l = append(l, api.Keep{At: uint16(i), Sectors: sectors})
		}
	}
	return l
}

// trial is a stage that is about to be committed, on a device; what its root has, and what the next one has to have.
type trial struct {
	t           *testing.T
	d           *dev.Dev
	s           *stage.Stage
	was, now    map[uint32]uint16
	had, has    map[uint32]api.Block
	root, next  api.Root
	puts        int
	olds, nexts int
}

// prepare is a stage over d, to which such steps were done.
func prepare(t *testing.T, d *dev.Dev, r api.Root, steps func(s *stage.Stage, h *hand)) *trial {
	t.Helper()
	s, h := both(t, d, r)
	steps(s, h)
	x := &trial{t: t, d: d, s: s, was: counted(t, d, r), now: map[uint32]uint16{}, had: map[uint32]api.Block{}, has: map[uint32]api.Block{}, root: r}
	for a := range x.was {
		x.had[a], _ = d.Read(a)
	}
	for a := first(r.Size); a < r.Size; a++ {
		if c, _ := s.Count(a); c != 0 {
			x.now[a] = c
			x.has[a], _ = s.Read(a)
		}
	}
	x.next, _ = h.next(7, 2, 3)
	x.puts = len(h.puts())
	return x
}

// wantOneOf asks that a device has the old root, with all its blocks and counts, or the next one, and tells whether it is the next one.
func (x *trial) wantOneOf(what string, c *dev.Dev) bool {
	x.t.Helper()
	m, e := root.Mount(c)
	switch {
	case e == api.OK && m == x.root:
		x.olds++
		wantState(x.t, what, c, x.root, x.had, x.was)
	case e == api.OK && m == x.next:
		x.nexts++
		wantState(x.t, what, c, x.next, x.has, x.now)
	default:
		x.t.Errorf("%s: Mount gives %v, %d", what, m, e)
	}
	for a := range x.was {
		if b, _ := c.Read(a); b != x.had[a] {
			x.t.Errorf("%s: the block %d of the old root is changed", what, a)
		}
	}
	return m == x.next
}

// stop commits the stage on the device, which goes down behind so many writes and flushes, and tells whether it was committed.
func (x *trial) stop(fuse int) bool {
	x.t.Helper()
	want(x.t, "Fuse", x.d.Fuse(fuse), api.OK)
	r, e := x.s.Commit(7, 2, 3)
	if fuse < x.puts+3 {
		if r != (api.Root{}) || e != api.ErrDown {
			x.t.Errorf("stopped behind %d: Commit gives %v, %d, want ErrDown", fuse, r, e)
		}
		return false
	}
	if r != x.next || e != api.OK {
		x.t.Errorf("not stopped: Commit gives %v, %d, want %v", r, e, x.next)
	}
	return true
}

// crash asks for what is left of the device when it crashes now, whatever is kept.
func (x *trial) crash(what string, done bool, lists [][]api.Keep) {
	x.t.Helper()
	for _, k := range lists {
		c := x.d.Copy()
		c.Crash(k)
		what := fmt.Sprintf("%s, kept %v", what, k)
		if next := x.wantOneOf(what, c); done && !next {
			x.t.Errorf("%s: Commit returned OK, and the root is the old one", what)
		}
	}
}

// P11.5: a commit stopped at each of its writes and flushes, with many sets of what is kept: all of the old root is there, or all of the next one.
func TestStopped(t *testing.T) {
	olds, nexts := 0, 0
	for fuse := range 13 {
		d, r := with(t, 64, map[uint32]uint16{6: 1, 7: 2, 30: 1})
		x := prepare(t, d, from(r, 62, r.Free), func(s *stage.Stage, h *hand) {
			for i := range 5 {
				h.make(full(byte(i)), false)
				s.New(full(byte(i)), false)
			}
			for _, a := range []uint32{6, 30, 8} {
				h.less(a)
				s.Less(a)
			}
			h.more(7)
			s.More(7)
		})
		x.root = r // that of the device: the one with which the stage began has only another Hint
		done := x.stop(fuse)
		x.crash(fmt.Sprintf("stopped behind %d", fuse), done, sets(d.Pending()))
		olds, nexts = olds+x.olds, nexts+x.nexts
		if x.puts != 6 {
			t.Errorf("%d blocks are written, want 6", x.puts)
		}
	}
	if olds < 100 || nexts < 20 {
		t.Errorf("%d crashes left the old root, %d the next one: too few to tell", olds, nexts)
	}
}

// P11.5: any stages, one after the other on one device, each of whose commits is stopped somewhere, and what is left is gone on with.
func TestStoppedAnywhere(t *testing.T) {
	n := noise(20)
	olds, nexts := 0, 0
	for _, size := range []uint32{64, 65, 200} {
		d, r := with(t, size, n.counts(size))
		for range 60 {
			x := prepare(t, d, r, func(s *stage.Stage, h *hand) {
				for range n.below(20) {
					n.step(t, s, h)
				}
			})
			done := x.stop(n.below(x.puts + 5))
			what := fmt.Sprintf("%d blocks", size)
			x.crash(what, done, [][]api.Keep{nil, n.keeps(d.Pending()), n.keeps(d.Pending())})
			d.Crash(n.keeps(d.Pending()))
			x.wantOneOf(what, d)
			r, _ = root.Mount(d)
			olds, nexts = olds+x.olds, nexts+x.nexts
		}
	}
	if olds < 100 || nexts < 100 {
		t.Errorf("%d crashes left the old root, %d the next one: too few to tell", olds, nexts)
	}
}

// P11.5: a stage that is not committed leaves nothing on the device, whatever was done.
func TestAbandoned(t *testing.T) {
	n := noise(21)
	d, r := with(t, 200, n.counts(200))
	c, counts := d.Copy(), counted(t, d, r)
	for range 20 {
		s, h := both(t, d, r)
		for range 40 {
			n.step(t, s, h)
		}
		wantNoCommit(t, "no root", s, 6, 0, 2, api.ErrArg)
		wantDevice(t, "abandoned", d, c)
		if !maps.Equal(counted(t, d, r), counts) {
			t.Error("the counts of the root are not the same")
		}
	}
}
