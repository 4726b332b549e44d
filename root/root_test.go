package root_test

import (
	"fmt"
	"math"
	"slices"
	"testing"

	"pantile/api"
	"pantile/crc"
	"pantile/dev"
	"pantile/root"
	"pantile/slot"
)

// noise is a source of numbers that are the same in each run.
type noise uint64

func (n *noise) next() uint64 {
	*n = *n*6364136223846793005 + 1442695040888963407
	return uint64(*n) ^ uint64(*n)>>33
}

func (n *noise) below(end int) int { return int(n.next() % uint64(end)) }

func (n *noise) block() (b api.Block) {
	for i := range b {
		b[i] = byte(n.next())
	}
	return b
}

// full is a block of one byte.
func full(c byte) (b api.Block) {
	for i := range b {
		b[i] = c
	}
	return b
}

func device(t *testing.T, n uint32) *dev.Dev {
	t.Helper()
	d, e := dev.New(n)
	if d == nil || e != api.OK {
		t.Fatalf("New(%d) gives %v, %d", n, d, e)
	}
	return d
}

// formatted is a device of n blocks behind a format.
func formatted(t *testing.T, n uint32) (*dev.Dev, api.Root) {
	t.Helper()
	d := device(t, n)
	r, e := root.Format(d)
	if e != api.OK {
		t.Fatalf("Format gives %d", e)
	}
	return d, r
}

// sealed is the block of a root.
func sealed(t *testing.T, r api.Root) api.Block {
	t.Helper()
	b, e := slot.Put(r)
	if e != api.OK {
		t.Fatalf("%v has no block: %d", r, e)
	}
	return b
}

// with is r, changed.
func with(r api.Root, change func(r *api.Root)) api.Root {
	change(&r)
	return r
}

// plan counts the pages of a device one by one, as the chapter says what is where.
func plan(n uint32) (p api.Plan) {
	for at := uint32(0); at < n; at += 64 {
		p.Tallies++
	}
	for at := uint32(0); at < p.Tallies; at += 1024 {
		p.Picks++
	}
	p.First = 2
	for range p.Picks {
		p.First += 2
	}
	for range p.Tallies {
		p.First += 2
	}
	return p
}

// may tells by what the chapter says whether r can be one of the roots of a device of n blocks.
func may(r api.Root, n uint32) bool {
	p := plan(n)
	switch {
	case !slot.May(r), r.Size != n:
		return false
	case r.Hint < p.First, uint64(r.Free) > uint64(n)-uint64(p.First):
		return false
	}
	for bit := p.Picks; bit < 32; bit++ {
		if r.Picks&(1<<bit) != 0 {
			return false
		}
	}
	return true
}

// its is the root of a device by what the chapter says, and whether there is one.
func its(d *dev.Dev) (its api.Root, found bool) {
	for at := range uint32(2) {
		b, _ := d.Read(at)
		r, e := slot.Get(b)
		if e == api.OK && uint32(r.Gen%2) == at && may(r, d.Size()) && (!found || r.Gen > its.Gen) {
			its, found = r, true
		}
	}
	return its, found
}

func want(t *testing.T, what string, got, want api.Errno) {
	t.Helper()
	if got != want {
		t.Errorf("%s: error %d, want %d", what, got, want)
	}
}

// wantMount asks that a mount gives the device's root as the chapter says it, or ErrRoot and nothing (R3), twice (R4), and changes nothing.
func wantMount(t *testing.T, what string, d *dev.Dev) {
	t.Helper()
	r, found := its(d)
	fault := api.ErrRoot
	if found {
		fault = api.OK
	}
	c := d.Copy()
	for range 2 {
		if got, e := root.Mount(d); got != r || e != fault {
			t.Errorf("%s: Mount gives %v, %d, want %v, %d", what, got, e, r, fault)
		}
	}
	wantSame(t, what+", mounted", d, c)
}

// wantRoot asks that a mount gives this root.
func wantRoot(t *testing.T, what string, d *dev.Dev, r api.Root) {
	t.Helper()
	if got, e := root.Mount(d); got != r || e != api.OK {
		t.Errorf("%s: Mount gives %v, %d, want %v", what, got, e, r)
	}
}

// wantNone asks that the device has no root.
func wantNone(t *testing.T, what string, d *dev.Dev) {
	t.Helper()
	if r, e := root.Mount(d); r != (api.Root{}) || e != api.ErrRoot {
		t.Errorf("%s: Mount gives %v, %d, want no root and ErrRoot", what, r, e)
	}
}

// wantSame asks that two devices have the same blocks and the same pending writes, and have had the same number of writes and flushes.
func wantSame(t *testing.T, what string, d, c *dev.Dev) {
	t.Helper()
	if d.Size() != c.Size() || d.Pending() != c.Pending() || d.Writes() != c.Writes() || d.Down() != c.Down() {
		t.Errorf("%s: %d pending, %d writes, down: %t, want %d, %d, %t", what, d.Pending(), d.Writes(), d.Down(), c.Pending(), c.Writes(), c.Down())
		return
	}
	wantBlocks(t, what, d, c)
	for i := range d.Pending() {
		x, y := d.Copy(), c.Copy()
		x.Crash([]api.Keep{{At: uint16(i), Sectors: 15}})
		y.Crash([]api.Keep{{At: uint16(i), Sectors: 15}})
		wantBlocks(t, fmt.Sprintf("%s: the pending write %d", what, i), x, y)
	}
}

func wantBlocks(t *testing.T, what string, d, c *dev.Dev) {
	t.Helper()
	for a := range d.Size() {
		x, _ := d.Read(a)
		if y, _ := c.Read(a); x != y {
			t.Errorf("%s: the block %d is %x.., want %x..", what, a, x[:4], y[:4])
		}
	}
}

// op is a write, or, with flush, a flush.
type op struct {
	flush bool
	put   api.Put
}

// byHand does to a device what the chapter says, one after the other.
func byHand(d *dev.Dev, l []op) api.Errno {
	for _, o := range l {
		e := d.Flush
		if !o.flush {
			e = func() api.Errno { return d.Write(o.put.At, o.put.B) }
		}
		if n := e(); n != api.OK {
			return n
		}
	}
	return api.OK
}

// committing is what is done to commit blocks and a root.
func committing(t *testing.T, l []api.Put, r api.Root) []op {
	t.Helper()
	var todo []op
	for _, p := range l {
		todo = append(todo, op{put: p})
	}
	return append(todo, op{flush: true}, op{put: api.Put{At: uint32(r.Gen % 2), B: sealed(t, r)}}, op{flush: true})
}

// firstRoot is the root of a device of n blocks behind a format.
func firstRoot(n uint32) api.Root {
	at := plan(n).First
	return api.Root{Gen: 1, Size: n, Free: n - at, Next: 1, Hint: at}
}

// formatting is what is done to format a device as it is now.
func formatting(t *testing.T, d *dev.Dev) []op {
	t.Helper()
	var l []api.Put
	for a := range plan(d.Size()).First {
		if b, _ := d.Read(a); !crc.Zero(b) {
			l = append(l, api.Put{At: a})
		}
	}
	return committing(t, l, firstRoot(d.Size()))
}

// wantFormat asks that a format of d does what the chapter says, and returns the first root, or ErrDown and nothing.
func wantFormat(t *testing.T, what string, d *dev.Dev) api.Errno {
	t.Helper()
	c := d.Copy()
	fault := byHand(c, formatting(t, c))
	r := firstRoot(d.Size())
	if fault != api.OK {
		r = api.Root{}
	}
	if got, e := root.Format(d); got != r || e != fault {
		t.Errorf("%s: Format gives %v, %d, want %v, %d", what, got, e, r, fault)
	}
	wantSame(t, what, d, c)
	return fault
}

// wantCommit asks that a commit to d does what the chapter says, and leaves what it is given as it is.
func wantCommit(t *testing.T, what string, d *dev.Dev, l []api.Put, r api.Root) api.Errno {
	t.Helper()
	c, before := d.Copy(), slices.Clone(l)
	fault := byHand(c, committing(t, l, r))
	want(t, what, root.Commit(d, l, r), fault)
	wantSame(t, what, d, c)
	if !slices.Equal(l, before) {
		t.Errorf("%s: the blocks that were given are changed", what)
	}
	return fault
}

// wantArg asks that a commit is refused, and that nothing is written then.
func wantArg(t *testing.T, what string, d *dev.Dev, l []api.Put, r api.Root) {
	t.Helper()
	c := d.Copy()
	want(t, what, root.Commit(d, l, r), api.ErrArg)
	wantSame(t, what, d, c)
}

// The chapter's examples.
func TestExamples(t *testing.T) {
	for _, x := range []struct {
		n    uint32
		want api.Plan
		e    api.Errno
	}{
		{64, api.Plan{Tallies: 1, Picks: 1, First: 6}, api.OK},
		{65, api.Plan{Tallies: 2, Picks: 1, First: 8}, api.OK},
		{1048576, api.Plan{Tallies: 16384, Picks: 16, First: 32802}, api.OK},
		{63, api.Plan{}, api.ErrArg},
	} {
		if p, e := root.Layout(x.n); p != x.want || e != x.e {
			t.Errorf("Layout(%d) gives %v, %d", x.n, p, e)
		}
	}
	d := device(t, 64)
	wantNone(t, "a new device", d)
	r, e := root.Format(d)
	if r != (api.Root{Gen: 1, Size: 64, Free: 58, Next: 1, Hint: 6}) || e != api.OK {
		t.Fatalf("Format gives %v, %d", r, e)
	}
	wantRoot(t, "formatted", d, r)
	r.Gen = 2
	want(t, "Commit", root.Commit(d, []api.Put{{At: 9, B: full(7)}}, r), api.OK)
	wantRoot(t, "committed", d, r)
	if b, _ := d.Read(9); b != full(7) {
		t.Errorf("the block 9 is %x", b)
	}
	wantArg(t, "Gen 0", d, nil, with(r, func(r *api.Root) { r.Gen = 0 }))
	wantArg(t, "a block 1", d, []api.Put{{At: 1}}, r)
}

// P8.1: each size around those where a page is added, and those that no device has.
func TestLayout(t *testing.T) {
	sizes := []uint32{64, 65, 127, 128, 129, 1000, 1<<20 - 64, 1<<20 - 63, 1<<20 - 1, 1 << 20}
	for s := uint32(1); s < 16; s++ {
		sizes = append(sizes, s<<16-1, s<<16, s<<16+1)
	}
	for n := uint32(64); n < 5000; n++ {
		sizes = append(sizes, n)
	}
	for _, n := range sizes {
		for range 2 {
			if p, e := root.Layout(n); p != plan(n) || e != api.OK {
				t.Errorf("Layout(%d) gives %v, %d, want %v", n, p, e, plan(n))
			}
		}
	}
	for _, n := range []uint32{0, 1, 2, 62, 63, 1<<20 + 1, 1<<20 + 64, 1 << 21, 1 << 31, math.MaxUint32 - 63, math.MaxUint32} {
		if p, e := root.Layout(n); p != (api.Plan{}) || e != api.ErrArg {
			t.Errorf("Layout(%d) gives %v, %d, want no plan and ErrArg", n, p, e)
		}
	}
}

// P8.1: what the plan of a device of 2^16 + 1 blocks has.
func TestLayoutOfTwoPicks(t *testing.T) {
	for n, want := range map[uint32]api.Plan{
		1 << 16:   {Tallies: 1024, Picks: 1, First: 2052},
		1<<16 + 1: {Tallies: 1025, Picks: 2, First: 2056},
		128:       {Tallies: 2, Picks: 1, First: 8},
		129:       {Tallies: 3, Picks: 1, First: 10},
	} {
		if p, e := root.Layout(n); p != want || e != api.OK {
			t.Errorf("Layout(%d) gives %v, %d, want %v", n, p, e, want)
		}
	}
}

// P8.2: devices of any size are formatted, and mounted.
func TestFormatSizes(t *testing.T) {
	for _, n := range []uint32{64, 65, 100, 128, 129, 4096} {
		d := device(t, n)
		wantMount(t, "new", d)
		want(t, "new", wantFormat(t, fmt.Sprintf("%d blocks", n), d), api.OK)
		wantRoot(t, "formatted", d, firstRoot(n))
		if d.Pending() != 0 || d.Writes() != 3 {
			t.Errorf("%d blocks: %d writes, %d pending", n, d.Writes(), d.Pending())
		}
	}
	for _, n := range []uint32{1 << 16, 1<<16 + 1, 1<<20 - 1, 1 << 20} {
		d, r := formatted(t, n)
		if r != firstRoot(n) {
			t.Errorf("Format of %d blocks gives %v, want %v", n, r, firstRoot(n))
		}
		wantRoot(t, "formatted", d, r)
	}
}

// P8.2: all blocks below First are zero behind a format, those that are not zero are written, in order, and no other ones.
func TestFormatOfJunk(t *testing.T) {
	all := [64]int{}
	for a := range all {
		all[a] = a
	}
	for _, dirty := range [][]int{{}, {0}, {1}, {2}, {4}, {5}, {6}, {63}, {0, 1}, {2, 5, 6}, {1, 3, 4}, {0, 1, 2, 3, 4, 5}, all[:]} {
		for _, flushed := range []bool{false, true} {
			d := device(t, 64)
			for _, a := range dirty {
				d.Write(uint32(a), full(byte(a+1)))
			}
			if flushed {
				d.Flush()
			}
			before, zeroed := d.Writes(), 0
			what := fmt.Sprintf("blocks %v", dirty)
			want(t, what, wantFormat(t, what, d), api.OK)
			for a := range all {
				b, _ := d.Read(uint32(a))
				dirty := slices.Contains(dirty, a)
				if dirty && a < 6 {
					zeroed++
				}
				if keep := dirty && a >= 6; keep && b != full(byte(a+1)) || !keep && a != 1 && b != (api.Block{}) {
					t.Errorf("%s: the block %d is %x..", what, a, b[:4])
				}
			}
			if d.Writes() != before+uint64(zeroed)+3 || d.Pending() != 0 {
				t.Errorf("%s: %d writes, %d pending, want %d writes", what, d.Writes(), d.Pending(), before+uint64(zeroed)+3)
			}
			wantRoot(t, what, d, firstRoot(64))
		}
	}
}

// P8.2: a block that is zero by a pending write is not written again, one that is not zero by a pending write is, and one of which only a byte is not zero.
func TestFormatOfPending(t *testing.T) {
	for at := range 256 {
		d := device(t, 64)
		d.Write(2, full(1))
		d.Write(3, full(1))
		d.Flush()
		var b api.Block
		b[at] = 1
		d.Write(3, api.Block{})
		d.Write(4, b)
		d.Write(5, full(1))
		d.Write(5, api.Block{})
		before := d.Writes()
		want(t, "Format", wantFormat(t, "pending blocks", d), api.OK)
		if d.Writes() != before+5 {
			t.Errorf("%d writes and flushes, want 5: of the blocks 2 and 4, of the root, and two flushes", d.Writes()-before)
		}
	}
}

// P8.2: a device that has a root loses it: also one of a greater generation, in either slot.
func TestFormatAgain(t *testing.T) {
	d, r := formatted(t, 64)
	for _, gens := range [][]uint64{{2}, {2, 3}, {2, 3, 4}, {math.MaxUint64}, {math.MaxUint64 - 1, math.MaxUint64}} {
		for _, gen := range gens {
			want(t, "Commit", root.Commit(d, []api.Put{{At: 2, B: full(1)}, {At: 6, B: full(2)}}, with(r, func(r *api.Root) { r.Gen = gen })), api.OK)
		}
		want(t, "Format", wantFormat(t, "again", d), api.OK)
		wantRoot(t, "formatted again", d, r)
	}
	before := d.Writes()
	want(t, "Format", wantFormat(t, "twice", d), api.OK)
	if d.Writes() != before+4 {
		t.Errorf("%d writes and flushes, want 4: of the slot 1, a flush, of the root, a flush", d.Writes()-before)
	}
}

// slotsWith is a device of n blocks with these blocks in its slots.
func slotsWith(t *testing.T, n uint32, even, odd api.Block) *dev.Dev {
	t.Helper()
	d := device(t, n)
	d.Write(0, even)
	d.Write(1, odd)
	d.Flush()
	return d
}

// P8.2: roots in the slot of their generation, and in the other one.
func TestMountSlots(t *testing.T) {
	for _, gen := range []uint64{1, 2, 3, 4, 1 << 32, 1<<32 + 1, 1<<63 - 1, 1 << 63, math.MaxUint64 - 1, math.MaxUint64} {
		r := with(firstRoot(64), func(r *api.Root) { r.Gen = gen })
		b := sealed(t, r)
		for at, d := range []*dev.Dev{slotsWith(t, 64, b, api.Block{}), slotsWith(t, 64, api.Block{}, b)} {
			what := fmt.Sprintf("generation %d in the slot %d", gen, at)
			if gen%2 == uint64(at) {
				wantRoot(t, what, d, r)
			} else {
				wantNone(t, what, d)
			}
			wantMount(t, what, d)
		}
		wantRoot(t, "in both slots", slotsWith(t, 64, b, b), r)
	}
	d := device(t, 64)
	for a := range uint32(62) {
		d.Write(a+2, sealed(t, with(firstRoot(64), func(r *api.Root) { r.Gen = uint64(a) + 2 })))
	}
	wantNone(t, "roots behind the slots", d)
}

// P8.2: of two roots the greater generation counts, however much greater it is.
func TestMountOfTwo(t *testing.T) {
	gens := []uint64{1, 2, 3, 4, 5, 255, 256, 1<<31 - 1, 1 << 31, 1<<32 - 1, 1 << 32, 1<<32 + 1, 1<<63 - 1, 1 << 63, 1<<63 + 1, math.MaxUint64 - 1, math.MaxUint64}
	for _, even := range gens {
		for _, odd := range gens {
			x := with(firstRoot(64), func(r *api.Root) { r.Gen, r.Free = even, 3 })
			y := with(firstRoot(64), func(r *api.Root) { r.Gen, r.Free = odd, 5 })
			d := slotsWith(t, 64, sealed(t, x), sealed(t, y))
			what := fmt.Sprintf("generations %d and %d", even, odd)
			wantMount(t, what, d)
			if even%2 == 0 && odd%2 == 1 {
				if odd > even {
					x = y
				}
				wantRoot(t, what, d, x)
			}
		}
	}
}

// condition is a change of a root of a device of n blocks, behind which it can be one of the device's roots, or can not.
type condition struct {
	n      uint32
	want   bool
	change func(r *api.Root)
}

// conditions are all conditions of the roots of a device, each at both of its sides.
func conditions() []condition {
	return []condition{
		{64, true, func(r *api.Root) {}},
		{64, true, func(r *api.Root) { r.Next, r.Vols, r.Names = 9, 16, 63 }},
		{64, false, func(r *api.Root) { r.Size = 65 }},
		{65, false, func(r *api.Root) { r.Size = 64; r.Hint, r.Free = 8, 1 }},
		{65, false, func(r *api.Root) { r.Size = 66 }},
		{1 << 20, false, func(r *api.Root) { r.Size-- }},
		{64, true, func(r *api.Root) { r.Picks = 1 }},
		{64, false, func(r *api.Root) { r.Picks = 2 }},
		{64, false, func(r *api.Root) { r.Picks = 3 }},
		{64, false, func(r *api.Root) { r.Picks = 1 << 15 }},
		{1 << 16, true, func(r *api.Root) { r.Picks = 1 }},
		{1 << 16, false, func(r *api.Root) { r.Picks = 2 }},
		{1<<16 + 1, true, func(r *api.Root) { r.Picks = 3 }},
		{1<<16 + 1, false, func(r *api.Root) { r.Picks = 4 }},
		{1<<20 - 1<<16, true, func(r *api.Root) { r.Picks = 1<<15 - 1 }},
		{1<<20 - 1<<16, false, func(r *api.Root) { r.Picks = 1 << 15 }},
		{1 << 20, true, func(r *api.Root) { r.Picks = 1<<16 - 1 }},
		{64, false, func(r *api.Root) { r.Hint = 0 }},
		{64, false, func(r *api.Root) { r.Hint = 5 }},
		{64, true, func(r *api.Root) { r.Hint = 6 }},
		{64, true, func(r *api.Root) { r.Hint = 63 }},
		{65, false, func(r *api.Root) { r.Hint = 7 }},
		{65, true, func(r *api.Root) { r.Hint = 8 }},
		{1 << 20, false, func(r *api.Root) { r.Hint = 32801 }},
		{1 << 20, true, func(r *api.Root) { r.Hint = 32802 }},
		{64, true, func(r *api.Root) { r.Free = 0 }},
		{64, true, func(r *api.Root) { r.Free = 58 }},
		{64, false, func(r *api.Root) { r.Free = 59 }},
		{64, false, func(r *api.Root) { r.Free = 64 }},
		{65, true, func(r *api.Root) { r.Free = 57 }},
		{65, false, func(r *api.Root) { r.Free = 58 }},
		{1 << 20, true, func(r *api.Root) { r.Free = 1<<20 - 32802 }},
		{1 << 20, false, func(r *api.Root) { r.Free = 1<<20 - 32801 }},
	}
}

// P8.2, P8.3: each condition of the roots of a device, for a mount and for a commit.
func TestConditions(t *testing.T) {
	for i, x := range conditions() {
		for gen := range uint64(2) {
			r := with(firstRoot(x.n), func(r *api.Root) { r.Gen += gen })
			x.change(&r)
			what := fmt.Sprintf("case %d: %v on %d blocks", i, r, x.n)
			if !slot.May(r) || may(r, x.n) != x.want {
				t.Fatalf("%s: not what it should be", what)
			}
			d := device(t, x.n)
			d.Write(uint32(r.Gen%2), sealed(t, r))
			before := d.Writes()
			switch got, e := root.Mount(d); {
			case x.want:
				wantRoot(t, what, d, r)
				want(t, what, root.Commit(d, nil, r), api.OK)
			case got != (api.Root{}) || e != api.ErrRoot:
				t.Errorf("%s: Mount gives %v, %d", what, got, e)
			default:
				want(t, what, root.Commit(d, nil, r), api.ErrArg)
				if d.Writes() != before || d.Pending() != 1 {
					t.Errorf("%s: something is written", what)
				}
			}
		}
	}
}

// P8.2: a root that can not be the device's does not hide the one in the other slot, though its generation is greater.
func TestMountBesideWrong(t *testing.T) {
	for i, x := range conditions() {
		if x.want || x.n > 1000 {
			continue
		}
		for gen := range uint64(2) {
			good := with(firstRoot(x.n), func(r *api.Root) { r.Gen += gen })
			bad := with(good, x.change)
			bad.Gen += 1001
			l := [2]api.Block{}
			l[good.Gen%2], l[bad.Gen%2] = sealed(t, good), sealed(t, bad)
			wantRoot(t, fmt.Sprintf("case %d", i), slotsWith(t, x.n, l[0], l[1]), good)
		}
	}
}

// P8.2: slots with blocks that are no root: each byte turned, other blocks, noise.
func TestMountOfOther(t *testing.T) {
	n := noise(1)
	low, high := firstRoot(64), with(firstRoot(64), func(r *api.Root) { r.Gen = 2 })
	x, y := sealed(t, high), sealed(t, low)
	for i := range x {
		for range 3 {
			bad := x
			bad[i] ^= byte(1 + n.below(255))
			wantRoot(t, "the other slot", slotsWith(t, 64, bad, y), low)
			wantNone(t, "no other slot", slotsWith(t, 64, bad, api.Block{}))
			wantMount(t, "sealed again", slotsWith(t, 64, crc.Seal(bad), y))
		}
	}
	for range 200 {
		wantNone(t, "noise", slotsWith(t, 64, n.block(), crc.Seal(n.block())))
		wantRoot(t, "noise and a root", slotsWith(t, 64, n.block(), y), low)
	}
}

// P8.2: what is read counts, also if it is pending; a device that is down is mounted as well.
func TestMountPending(t *testing.T) {
	d, low := formatted(t, 64)
	high := with(low, func(r *api.Root) { r.Gen = 2 })
	d.Write(0, sealed(t, high))
	wantRoot(t, "pending", d, high)
	d.Fuse(0)
	want(t, "Flush", d.Flush(), api.ErrDown)
	wantRoot(t, "down", d, high)
	d.Crash(nil)
	wantRoot(t, "after a crash", d, low)
	d.Write(1, api.Block{})
	wantNone(t, "overwritten", d)
	d.Fuse(0)
	want(t, "Write", d.Write(9, full(1)), api.ErrDown)
	wantNone(t, "overwritten, and down", d)
}

// P8.3: each address, of the first, of a middle and of the last block.
func TestCommitAddresses(t *testing.T) {
	for _, n := range []uint32{64, 65, 1 << 20} {
		made, r := formatted(t, n)
		r.Gen = 2
		for _, at := range []uint32{0, 1, 2, 3, 5, 6, 7, 63, n - 1, n, n + 1, 1<<20 - 1, 1 << 20, 1<<20 + 1, 1 << 31, math.MaxUint32} {
			good := []api.Put{{At: 2, B: full(1)}, {At: n - 1, B: full(2)}, {At: 7, B: full(3)}}
			for i := range 4 {
				d, l := made.Copy(), slices.Insert(slices.Clone(good), i, api.Put{At: at, B: full(4)})
				before := d.Writes()
				ok := at >= 2 && at < n
				e := root.Commit(d, l, r)
				switch {
				case ok && (e != api.OK || d.Writes() != before+7):
					t.Errorf("a block at %d of %d: error %d, %d writes", at, n, e, d.Writes()-before)
				case !ok && (e != api.ErrArg || d.Writes() != before || d.Pending() != 0):
					t.Errorf("a block at %d of %d: error %d, %d writes, want ErrArg and none", at, n, e, d.Writes()-before)
				}
			}
		}
	}
}

// P8.3: a commit of no blocks, of one, of two with the same address, of many.
func TestCommit(t *testing.T) {
	d, r := formatted(t, 64)
	many := []api.Put{}
	for a := range uint32(62) {
		many = append(many, api.Put{At: 63 - a, B: full(byte(a))})
	}
	for _, l := range [][]api.Put{
		nil,
		{},
		{{At: 9, B: full(7)}},
		{{At: 9}},
		{{At: 9, B: full(1)}, {At: 9, B: full(2)}},
		{{At: 9, B: full(2)}, {At: 9, B: full(1)}},
		{{At: 9, B: full(3)}, {At: 8, B: full(4)}, {At: 9, B: full(5)}},
		{{At: 2, B: full(1)}, {At: 63, B: full(2)}},
		many,
		append(many[:30:30], many...),
	} {
		r.Gen, r.Free = r.Gen+1, r.Free-1
		before := d.Writes()
		want(t, "Commit", wantCommit(t, fmt.Sprintf("%d blocks", len(l)), d, l, r), api.OK)
		if d.Writes() != before+uint64(len(l))+3 || d.Pending() != 0 {
			t.Errorf("%d blocks: %d writes, %d pending", len(l), d.Writes()-before, d.Pending())
		}
		wantRoot(t, "committed", d, r)
	}
}

// P8.3: any root that can be the device's is committed, whatever the generation of the device's root is, and also if it has none.
func TestCommitGenerations(t *testing.T) {
	gens := []uint64{1, 2, 3, 10, 1 << 32, 1<<63 + 1, math.MaxUint64 - 1, math.MaxUint64}
	for _, first := range append([]uint64{0}, gens...) {
		for _, second := range gens {
			d := device(t, 64)
			if first != 0 {
				want(t, "Commit", wantCommit(t, "first", d, nil, with(firstRoot(64), func(r *api.Root) { r.Gen, r.Free = first, 5 })), api.OK)
			}
			want(t, "Commit", wantCommit(t, "second", d, nil, with(firstRoot(64), func(r *api.Root) { r.Gen = second })), api.OK)
			wantMount(t, fmt.Sprintf("generations %d and %d", first, second), d)
		}
	}
}

// P8.3: roots that are not valid (layer 7) are refused, also together with a wrong block.
func TestCommitNotValid(t *testing.T) {
	d, r := formatted(t, 64)
	r.Gen = 2
	for _, change := range []func(r *api.Root){
		func(r *api.Root) { *r = api.Root{} },
		func(r *api.Root) { r.Gen = 0 },
		func(r *api.Root) { r.Size = 63 },
		func(r *api.Root) { r.Size = 0 },
		func(r *api.Root) { r.Size = math.MaxUint32 },
		func(r *api.Root) { r.Picks = 1 << 16 },
		func(r *api.Root) { r.Picks = 1 << 31 },
		func(r *api.Root) { r.Vols = 1 },
		func(r *api.Root) { r.Names = 9 },
		func(r *api.Root) { r.Names, r.Vols = 64, 1 },
		func(r *api.Root) { r.Names, r.Vols = 9, 17 },
		func(r *api.Root) { r.Free = math.MaxUint32 },
		func(r *api.Root) { r.Next = 0 },
		func(r *api.Root) { r.Hint = 64 },
		func(r *api.Root) { r.Hint = math.MaxUint32 },
	} {
		bad := with(r, change)
		for _, l := range [][]api.Put{nil, {{At: 9, B: full(1)}}, {{At: 0}}, {{At: 64}}} {
			wantArg(t, fmt.Sprintf("%v", bad), d, l, bad)
		}
	}
}

// P8.2, P8.3: a nil pointer, and a zero object, is no device; that comes first.
func TestNoDevice(t *testing.T) {
	for _, d := range []*dev.Dev{nil, new(dev.Dev), {}} {
		for range 2 {
			if r, e := root.Format(d); r != (api.Root{}) || e != api.ErrNil {
				t.Errorf("Format gives %v, %d", r, e)
			}
			if r, e := root.Mount(d); r != (api.Root{}) || e != api.ErrNil {
				t.Errorf("Mount gives %v, %d", r, e)
			}
			for _, r := range []api.Root{firstRoot(64), {}} {
				for _, l := range [][]api.Put{nil, {{At: 0}}, {{At: 9}}} {
					want(t, "Commit", root.Commit(d, l, r), api.ErrNil)
				}
			}
		}
	}
}

// P8.2, P8.3: a device that is down is neither formatted nor committed to; that comes last.
func TestDown(t *testing.T) {
	for _, dirty := range []bool{false, true} {
		d, r := formatted(t, 64)
		r.Gen = 2
		if dirty {
			d.Write(4, full(1))
			d.Flush()
		}
		d.Fuse(0)
		want(t, "Flush", d.Flush(), api.ErrDown)
		for range 2 {
			want(t, "Format", wantFormat(t, "down", d), api.ErrDown)
			want(t, "Commit", wantCommit(t, "down", d, nil, r), api.ErrDown)
			want(t, "Commit", wantCommit(t, "down", d, []api.Put{{At: 9, B: full(1)}}, r), api.ErrDown)
			wantArg(t, "down, and no root", d, nil, api.Root{})
			wantArg(t, "down, and a block 1", d, []api.Put{{At: 1}}, r)
			wantMount(t, "down", d)
		}
	}
}

// R5: blocks are not changed, nor what lies behind them, and are not kept.
func TestBlocksAreNotKept(t *testing.T) {
	d, r := formatted(t, 64)
	r.Gen = 2
	l := []api.Put{{At: 9, B: full(1)}, {At: 10, B: full(2)}, {At: 11, B: full(3)}}
	want(t, "Commit", root.Commit(d, l[:1:2], r), api.OK)
	if l[0] != (api.Put{At: 9, B: full(1)}) || l[1] != (api.Put{At: 10, B: full(2)}) || l[2] != (api.Put{At: 11, B: full(3)}) {
		t.Error("the blocks that were given, or those behind them, are changed")
	}
	l[0].B = full(9)
	if b, _ := d.Read(9); b != full(1) {
		t.Error("a block is kept")
	}
	if b, _ := d.Read(10); b != (api.Block{}) {
		t.Error("a block behind the list is written")
	}
}
