package count_test

import (
	"fmt"
	"testing"

	"pantile/api"
	"pantile/count"
	"pantile/dev"
	"pantile/root"
)

// changeSome sets some counts, in a table and by hand, many of them near each other, and some back to the old count.
func (n *noise) changeSome(t *testing.T, x *count.Table, h hand) {
	t.Helper()
	first := plan(h.r.Size).First
	near := first
	for range n.below(30) {
		if n.below(3) == 0 {
			near = first + uint32(n.below(int(h.r.Size-first)))
		}
		a := near + uint32(n.below(8))
		if a >= h.r.Size {
			continue
		}
		if old, _ := h.old(a); n.below(4) == 0 {
			set(t, x, h, a, old)
			continue
		}
		set(t, x, h, a, n.count())
	}
}

// keeps are any sectors of any pending writes.
func (n *noise) keeps(pending int) []api.Keep {
	var l []api.Keep
	for range n.below(2*pending + 2) {
		l = append(l, api.Keep{At: uint16(n.below(pending + 1)), Sectors: uint8(n.next())})
	}
	return l
}

// homes are all blocks that hold a page of a root.
func homes(h hand) map[uint32]int {
	l := map[uint32]int{}
	p := plan(h.r.Size)
	for s := range p.Picks {
		l[h.pickAt(s)]++
	}
	for i := range p.Tallies {
		at, _ := h.tallyAt(i)
		l[at]++
	}
	return l
}

// wantMoved asks that no block that holds a page of the root is put, and none twice.
func wantMoved(t *testing.T, h hand, l []api.Put) {
	t.Helper()
	taken := homes(h)
	for _, p := range l {
		if taken[p.At] != 0 {
			t.Errorf("the block %d, which holds a page of the root, is put, or is put twice", p.At)
		}
		taken[p.At]++
	}
}

// next is the root that follows, with these Picks.
func next(r api.Root, picks uint32) api.Root {
	r.Gen, r.Picks = r.Gen+1, picks
	return r
}

// wantEqual asks that a table of the root r on d has the counts of x as its own and old ones, and no changes.
func wantEqual(t *testing.T, what string, d *dev.Dev, r api.Root, x *count.Table) {
	t.Helper()
	y := open(t, d, r)
	for _, a := range blocks(r.Size) {
		c, fault := x.Get(a)
		if got, e := y.Get(a); got != c || e != fault {
			t.Errorf("%s: Get(%d) gives %d, %d, want %d, %d", what, a, got, e, c, fault)
		}
		if got, e := y.Old(a); got != c || e != fault {
			t.Errorf("%s: Old(%d) gives %d, %d, want %d, %d", what, a, got, e, c, fault)
		}
	}
	wantSeal(t, what, y, byHand(d, r))
}

// P9.4: many commits, one after the other: the table of each new root has the counts that were sealed, and that of the root before it still has its own.
func TestCommits(t *testing.T) {
	n := noise(20)
	for _, size := range []uint32{64, 65, 200, 300} {
		d, r := formatted(t, size)
		for range 40 {
			x, h := open(t, d, r), byHand(d, r)
			before := d.Copy()
			n.changeSome(t, x, h)
			wantSeal(t, "many", x, h)
			l, picks, _ := x.Seal()
			wantMoved(t, h, l)
			now := next(r, picks)
			want(t, "Commit", root.Commit(d, l, now), api.OK)
			wantEqual(t, "the new root", d, now, x)
			wantEqual(t, "the old root", d, r, open(t, before, r))
			r = now
		}
	}
}

// P9.4: the same with pages of several picks.
func TestGreatCommits(t *testing.T) {
	n := noise(21)
	for _, size := range []uint32{65537, 70000, 1<<17 + 64} {
		d, r := filled(t, &n, size, uint32(n.below(4)))
		for range 3 {
			x, h := open(t, d, r), byHand(d, r)
			for range 4 {
				n.changeSome(t, x, h)
			}
			for _, a := range []uint32{size - 1, 65535, 65536, plan(size).First} {
				set(t, x, h, a, n.count())
			}
			wantSeal(t, "great", x, h)
			l, picks, _ := x.Seal()
			wantMoved(t, h, l)
			now := next(r, picks)
			want(t, "Commit", root.Commit(d, l, now), api.OK)
			wantEqual(t, "the new root", d, now, x)
			wantEqual(t, "the old root", d, r, open(t, d, r))
			r = now
		}
	}
}

// P9.2, P9.4: a table is still that of its root when what it sealed is committed: it seals the same again, and what was set since as well.
func TestSealBehindCommit(t *testing.T) {
	n := noise(22)
	for range 20 {
		d, r := filled(t, &n, 200, uint32(n.below(2)))
		x, h := open(t, d, r), byHand(d, r)
		n.changeSome(t, x, h)
		l, picks, _ := x.Seal()
		want(t, "Commit", root.Commit(d, l, next(r, picks)), api.OK)
		wantSeal(t, "committed", x, h)
		wantCounts(t, "committed", x, h)
		n.changeSome(t, x, h)
		wantSeal(t, "committed, and set", x, h)
		wantCounts(t, "committed, and set", x, h)
		l, picks, _ = x.Seal()
		wantMoved(t, h, l)
		want(t, "Commit", root.Commit(d, l, next(r, picks)), api.OK)
		wantEqual(t, "committed again", d, next(r, picks), x)
	}
}

// P9.4: what is set of one table behind a seal is not in the root that is committed with it.
func TestSetBehindSeal(t *testing.T) {
	n := noise(23)
	d, r := filled(t, &n, 200, 1)
	x, h := open(t, d, r), byHand(d, r)
	set(t, x, h, 20, 1000)
	set(t, x, h, 150, 1001)
	l, picks, _ := x.Seal()
	want(t, "Set", x.Set(20, 2000), api.OK)
	want(t, "Set", x.Set(21, 2001), api.OK)
	now := next(r, picks)
	want(t, "Commit", root.Commit(d, l, now), api.OK)
	y := open(t, d, now)
	was, _ := h.old(21)
	for a, c := range map[uint32]uint16{20: 1000, 150: 1001, 21: was} {
		if got, e := y.Get(a); got != c || e != api.OK {
			t.Errorf("Get(%d) gives %d, %d, want %d, what was sealed", a, got, e, c)
		}
	}
}

// P9.4: wherever a commit stops, and whatever is kept of it: the counts are those of the old root, or those that were sealed.
func TestCommitStopped(t *testing.T) {
	n := noise(24)
	olds, news := 0, 0
	for _, size := range []uint32{64, 200} {
		d, r := filled(t, &n, size, 0)
		for range 6 {
			x, h := open(t, d, r), byHand(d, r)
			before := open(t, d.Copy(), r)
			n.changeSome(t, x, h)
			l, picks, _ := x.Seal()
			now := next(r, picks)
			for fuse := range len(l) + 4 {
				c := d.Copy()
				c.Fuse(fuse)
				root.Commit(c, l, now)
				c.Crash(n.keeps(c.Pending()))
				what := fmt.Sprintf("%d blocks, stopped behind %d", len(l), fuse)
				switch m, e := root.Mount(c); {
				case e == api.OK && m == r:
					olds++
					wantEqual(t, what, c, r, before)
				case e == api.OK && m == now:
					news++
					wantEqual(t, what, c, now, x)
				default:
					t.Errorf("%s: Mount gives %v, %d", what, m, e)
				}
			}
			want(t, "Commit", root.Commit(d, l, now), api.OK)
			r = now
		}
	}
	if olds < 20 || news < 10 {
		t.Errorf("%d crashes left the old root, %d the new one: too few to tell", olds, news)
	}
}
