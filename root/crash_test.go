package root_test

import (
	"fmt"
	"slices"
	"testing"

	"pantile/api"
	"pantile/dev"
	"pantile/root"
)

// root is one that a device of n blocks can have, of this generation.
func (n *noise) root(size uint32, gen uint64) api.Root {
	p := plan(size)
	r := api.Root{Gen: gen, Size: size, Next: 1 + uint32(n.below(1000))}
	r.Picks = uint32(n.below(1 << p.Picks))
	r.Free = uint32(n.below(int(size-p.First) + 1))
	r.Hint = p.First + uint32(n.below(int(size-p.First)))
	if n.below(2) == 0 {
		r.Vols, r.Names = uint8(1+n.below(16)), uint32(1+n.below(int(size)-1))
	}
	return r
}

// puts are blocks for a commit, some of them with the same address.
func (n *noise) puts(size uint32) []api.Put {
	var l []api.Put
	for range n.below(6) {
		l = append(l, api.Put{At: 2 + uint32(n.below(int(size)-2)), B: n.block()})
		if n.below(3) == 0 {
			l = append(l, api.Put{At: l[n.below(len(l))].At, B: n.block()})
		}
	}
	return l
}

// keeps are any sectors of any pending writes, in any order, some of them twice.
func (n *noise) keeps(pending int) []api.Keep {
	var l []api.Keep
	for range n.below(2*pending + 2) {
		l = append(l, api.Keep{At: uint16(n.below(pending + 1)), Sectors: uint8(n.next())})
	}
	return l
}

// sets are lists of keeps: each set of sectors of each pending write alone, and of all together, in both orders.
func sets(pending int) [][]api.Keep {
	l := [][]api.Keep{nil}
	for sectors := range uint8(16) {
		var all []api.Keep
		for i := range pending {
			k := api.Keep{At: uint16(i), Sectors: sectors}
			all = append(all, k)
			l = append(l, []api.Keep{k})
		}
		back := slices.Clone(all)
		slices.Reverse(back)
		l = append(l, all, back)
	}
	return l
}

// kept tells whether all sectors of a pending write are kept.
func kept(l []api.Keep, at int) bool {
	var sectors uint8
	for _, k := range l {
		if int(k.At) == at {
			sectors |= k.Sectors & 15
		}
	}
	return sectors == 15
}

// wantOneOf asks that the root of a device is one of these two, and tells whether it is the second one.
func wantOneOf(t *testing.T, what string, d *dev.Dev, old, now api.Root) bool {
	t.Helper()
	got, e := root.Mount(d)
	if e != api.OK || got != old && got != now {
		t.Errorf("%s: Mount gives %v, %d, want %v or %v", what, got, e, old, now)
	}
	return got == now
}

// stopped is what is left of a commit whose device goes down behind so many writes and flushes.
func stopped(t *testing.T, d *dev.Dev, l []api.Put, r api.Root, fuse int) (*dev.Dev, api.Errno) {
	t.Helper()
	c := d.Copy()
	want(t, "Fuse", c.Fuse(fuse), api.OK)
	what := fmt.Sprintf("%d blocks, stopped behind %d", len(l), fuse)
	e := wantCommit(t, what, c, l, r)
	if (e == api.OK) != (fuse >= len(l)+3) || e != api.OK && e != api.ErrDown {
		t.Errorf("%s: error %d", what, e)
	}
	return c, e
}

// P8.3, P8.4: commits stopped behind each of their writes and flushes, with each set of sectors kept.
func TestCommitStopped(t *testing.T) {
	d, old := formatted(t, 64)
	for gen := uint64(2); gen < 6; gen++ {
		now := with(old, func(r *api.Root) { r.Gen, r.Free, r.Hint = gen, r.Free-1, 5+uint32(gen) })
		for _, l := range [][]api.Put{nil, {{At: 9, B: full(7)}}, {{At: 9, B: full(7)}, {At: 9, B: full(8)}}, {{At: 2, B: full(7)}, {At: 63, B: full(8)}, {At: 9, B: full(9)}}} {
			for fuse := range len(l) + 5 {
				c, e := stopped(t, d, l, now, fuse)
				for _, k := range sets(c.Pending()) {
					x := c.Copy()
					x.Crash(k)
					what := fmt.Sprintf("%d blocks, stopped behind %d, kept %v", len(l), fuse, k)
					is := wantOneOf(t, what, x, old, now)
					// the root is written behind the blocks and a flush
					reached := fuse > len(l)
					if must := e == api.OK || reached && kept(k, 0); must && !is || !reached && is {
						t.Errorf("%s: error %d, the root is the new one: %t", what, e, is)
					}
				}
			}
		}
		want(t, "Commit", root.Commit(d, []api.Put{{At: 10, B: full(byte(gen))}}, now), api.OK)
		old = now
	}
}

// P8.4: when the root is the new one, all blocks that were committed with it are there.
func TestCommittedBlocksAreThere(t *testing.T) {
	n := noise(2)
	news := 0
	for range 200 {
		d, _ := formatted(t, 64)
		old := n.root(64, 2+n.next()>>8)
		want(t, "Commit", root.Commit(d, n.puts(64), old), api.OK)
		wantRoot(t, "before", d, old)
		now, l := n.root(64, old.Gen+1), n.puts(64)
		for fuse := range len(l) + 4 {
			c, e := stopped(t, d, l, now, fuse)
			for range 8 {
				x := c.Copy()
				k := n.keeps(x.Pending())
				x.Crash(k)
				is := wantOneOf(t, fmt.Sprintf("stopped behind %d, kept %v", fuse, k), x, old, now)
				if e == api.OK && !is {
					t.Errorf("Commit returned OK, and the root is still %v", old)
				}
				if is {
					news++
					wantWritten(t, x, l)
				}
			}
		}
	}
	if news < 500 {
		t.Errorf("%d crashes left the new root: too few to tell", news)
	}
}

// wantWritten asks that each of the blocks is what was written to it last.
func wantWritten(t *testing.T, d *dev.Dev, l []api.Put) {
	t.Helper()
	last := map[uint32]api.Block{}
	for _, p := range l {
		last[p.At] = p.B
	}
	for at, b := range last {
		if got, e := d.Read(at); got != b || e != api.OK {
			t.Errorf("the block %d is %x.., %d, want %x..", at, got[:4], e, b[:4])
		}
	}
}

// P8.3, P8.5: many commits, one after the other: each block is what was written to it last, also after a crash.
func TestManyCommits(t *testing.T) {
	n := noise(3)
	for _, size := range []uint32{64, 65, 200} {
		d, r := formatted(t, size)
		var all []api.Put
		for range 60 {
			l := n.puts(size)
			r = n.root(size, r.Gen+1)
			want(t, "Commit", wantCommit(t, "many", d, l, r), api.OK)
			all = append(all, l...)
			wantWritten(t, d, l)
			wantWritten(t, d, all)
			d.Crash(n.keeps(d.Pending()))
			wantWritten(t, d, all)
			wantRoot(t, "many", d, r)
		}
	}
}

// P8.2: formats stopped behind each of their writes and flushes: ErrDown and no root is returned, and a crash leaves the new root, or what is left of the old ones.
func TestFormatStopped(t *testing.T) {
	for _, gens := range [][]uint64{nil, {1}, {2}, {2, 3}, {2, 3, 4}} {
		d := device(t, 64)
		for i, gen := range gens {
			r := with(firstRoot(64), func(r *api.Root) { r.Gen, r.Free = gen, uint32(i) })
			want(t, "Commit", root.Commit(d, []api.Put{{At: 3, B: full(1)}, {At: 5, B: full(2)}, {At: 9, B: full(3)}}, r), api.OK)
		}
		zeros := len(formatting(t, d)) - 3
		for fuse := range zeros + 5 {
			c := d.Copy()
			want(t, "Fuse", c.Fuse(fuse), api.OK)
			what := fmt.Sprintf("generations %v, stopped behind %d", gens, fuse)
			e := wantFormat(t, what, c)
			if (e == api.OK) != (fuse >= zeros+3) {
				t.Errorf("%s: error %d", what, e)
			}
			for _, k := range sets(c.Pending()) {
				x := c.Copy()
				x.Crash(k)
				wantMount(t, fmt.Sprintf("%s, kept %v", what, k), x)
				if e == api.OK || fuse > zeros && kept(k, 0) {
					wantRoot(t, what, x, firstRoot(64))
				}
				if fuse > zeros && !kept(k, 0) && e != api.OK {
					wantNoOther(t, what, x)
				}
				x.Fuse(1000)
				if want(t, what, wantFormat(t, what, x), api.OK); x.Pending() != 0 {
					t.Errorf("%s: %d pending", what, x.Pending())
				}
			}
		}
	}
}

// wantNoOther asks that a device has no root other than the first one, and nothing else below First.
func wantNoOther(t *testing.T, what string, d *dev.Dev) {
	t.Helper()
	if r, e := root.Mount(d); e == api.OK && r != firstRoot(64) {
		t.Errorf("%s: Mount gives %v", what, r)
	}
	for _, a := range []uint32{0, 2, 3, 4, 5} {
		if b, _ := d.Read(a); b != (api.Block{}) {
			t.Errorf("%s: the block %d is %x..", what, a, b[:4])
		}
	}
}

// P8.2, P8.3: any calls on a device: formats, commits of roots that may be or not, writes of anything, fuses and crashes.
func TestAnyCalls(t *testing.T) {
	n := noise(4)
	mounted, not := 0, 0
	for range 30 {
		d := device(t, 64+uint32(n.below(100)))
		for range 60 {
			anyCall(t, &n, d)
			wantMount(t, "any calls", d)
			if _, found := its(d); found {
				mounted++
			} else {
				not++
			}
		}
	}
	if mounted < 100 || not < 100 {
		t.Errorf("%d mounts gave a root, %d did not: too few to tell", mounted, not)
	}
}

// anyCall does something to a device, and asks that it is what the chapter says.
func anyCall(t *testing.T, n *noise, d *dev.Dev) {
	t.Helper()
	r := n.root(d.Size(), 1+n.next()>>n.below(64)%1000)
	switch n.below(10) {
	case 0:
		wantFormat(t, "any", d)
	case 1:
		r.Hint -= uint32(n.below(60))
		r.Free += uint32(n.below(60))
		r.Picks += uint32(n.below(3))
		r.Size += uint32(n.below(4) / 3)
		if l := n.puts(d.Size()); may(r, d.Size()) {
			wantCommit(t, "any", d, l, r)
		} else {
			wantArg(t, "any", d, l, r)
		}
	case 2:
		l := append(n.puts(d.Size()), api.Put{At: uint32(n.below(2))}, api.Put{At: 9})
		wantArg(t, "any", d, l, r)
	case 3:
		d.Write(uint32(n.below(2)), n.block())
	case 4:
		d.Fuse(n.below(8))
	case 5, 6:
		d.Crash(n.keeps(d.Pending()))
	case 7:
		d.Write(uint32(n.below(2)), sealed(t, r))
	default:
		wantCommit(t, "any", d, n.puts(d.Size()), r)
	}
}
