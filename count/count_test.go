package count_test

import (
	"fmt"
	"maps"
	"math"
	"slices"
	"testing"

	"pantile/api"
	"pantile/count"
	"pantile/dev"
	"pantile/root"
	"pantile/tally"
)

// noise is a source of numbers that are the same in each run.
type noise uint64

func (n *noise) next() uint64 {
	*n = *n*6364136223846793005 + 1442695040888963407
	return uint64(*n) ^ uint64(*n)>>33
}

func (n *noise) below(end int) int { return int(n.next() % uint64(end)) }

// count is any one, often at an edge.
func (n *noise) count() uint16 {
	switch n.below(4) {
	case 0:
		return 0
	case 1:
		return math.MaxUint16
	case 2:
		return uint16(n.below(4))
	}
	return uint16(n.next())
}

// tally is the block of one with any counts, also for blocks below First and beyond the last block; sometimes a zero block.
func (n *noise) tally(index uint32) api.Block {
	x := api.Tally{Index: index}
	if n.below(8) == 0 {
		return api.Block{}
	}
	for i := range x.Counts {
		x.Counts[i] = n.count()
	}
	b, _ := tally.Put(x)
	return b
}

// pick is the block of one with any bits; sometimes a zero block.
func (n *noise) pick(index uint32) api.Block {
	x := api.Pick{Index: index}
	if n.below(8) == 0 {
		return api.Block{}
	}
	for i := range x.Bits {
		x.Bits[i] = n.next()
	}
	b, _ := tally.PutPick(x)
	return b
}

// block is one that is no page.
func (n *noise) block() (b api.Block) {
	for i := range b {
		b[i] = byte(n.next())
	}
	return b
}

// formatted is a device of n blocks behind a format.
func formatted(t *testing.T, n uint32) (*dev.Dev, api.Root) {
	t.Helper()
	d, _ := dev.New(n)
	r, e := root.Format(d)
	if e != api.OK {
		t.Fatalf("Format gives %d", e)
	}
	return d, r
}

// filled is a device with any pages in both blocks of each, and a root with these Picks.
func filled(t *testing.T, n *noise, size, picks uint32) (*dev.Dev, api.Root) {
	t.Helper()
	d, r := formatted(t, size)
	p := plan(size)
	var l []api.Put
	for s := range p.Picks {
		at := 2 + 2*s
		l = append(l, api.Put{At: at, B: n.pick(s)}, api.Put{At: at + 1, B: n.pick(s)})
	}
	for i := range p.Tallies {
		at := 2 + 2*p.Picks + 2*i
		l = append(l, api.Put{At: at, B: n.tally(i)}, api.Put{At: at + 1, B: n.tally(i)})
	}
	r.Gen, r.Picks = 2, picks
	if e := root.Commit(d, l, r); e != api.OK {
		t.Fatalf("Commit gives %d", e)
	}
	return d, r
}

// plan is layer 8's.
func plan(n uint32) api.Plan {
	p, _ := root.Layout(n)
	return p
}

func open(t *testing.T, d *dev.Dev, r api.Root) *count.Table {
	t.Helper()
	x, e := count.Open(d, r)
	if x == nil || e != api.OK {
		t.Fatalf("Open gives %v, %d", x, e)
	}
	return x
}

// hand is a table that is kept by hand: each old count is looked for on the device as the chapter says where it is, each time anew.
type hand struct {
	d   *dev.Dev
	r   api.Root
	set map[uint32]uint16
}

func byHand(d *dev.Dev, r api.Root) hand { return hand{d, r, map[uint32]uint16{}} }

// pickAt is in which block the root has the pick s.
func (h hand) pickAt(s uint32) uint32 {
	if h.r.Picks&(1<<s) != 0 {
		return 2 + 2*s + 1
	}
	return 2 + 2*s
}

// pick is the pick s of the root, and whether it is one.
func (h hand) pick(s uint32) (api.Pick, bool) {
	b, _ := h.d.Read(h.pickAt(s))
	x, e := tally.GetPick(b, s)
	return x, e == api.OK
}

// tallyAt is in which block the root has the tally p, and whether its pick tells it.
func (h hand) tallyAt(p uint32) (uint32, bool) {
	x, ok := h.pick(p / 1024)
	at := 2 + 2*plan(h.r.Size).Picks + 2*p
	if i := p % 1024; x.Bits[i/64]&(1<<(i%64)) != 0 {
		at++
	}
	return at, ok
}

// tally is the tally p of the root, and whether it is one.
func (h hand) tally(p uint32) (api.Tally, bool) {
	at, ok := h.tallyAt(p)
	b, _ := h.d.Read(at)
	x, e := tally.Get(b, p)
	return x, ok && e == api.OK
}

// old is the old count of a, and the error.
func (h hand) old(a uint32) (uint16, api.Errno) {
	switch {
	case a >= h.r.Size:
		return 0, api.ErrArg
	case a < plan(h.r.Size).First:
		return 0, api.OK
	}
	x, ok := h.tally(a / 64)
	if !ok {
		return 0, api.ErrBad
	}
	return x.Counts[a%64], api.OK
}

// count is the count of a, and the error.
func (h hand) count(a uint32) (uint16, api.Errno) {
	if c, ok := h.set[a]; ok {
		return c, api.OK
	}
	return h.old(a)
}

// changed are the blocks whose count is not the old one.
func (h hand) changed() []uint32 {
	var l []uint32
	for _, a := range slices.Sorted(maps.Keys(h.set)) {
		if old, _ := h.old(a); old != h.set[a] {
			l = append(l, a)
		}
	}
	return l
}

// seal is what a seal puts, and the new Picks.
func (h hand) seal() (l []api.Put, picks uint32) {
	tallies, turned := map[uint32]api.Tally{}, map[uint32]api.Pick{}
	for _, a := range h.changed() {
		p, s := a/64, a/64/1024
		x, begun := tallies[p]
		if !begun {
			x, _ = h.tally(p)
		}
		x.Counts[a%64] = h.set[a]
		tallies[p] = x
		if begun {
			continue
		}
		k, begun := turned[s]
		if !begun {
			k, _ = h.pick(s)
		}
		k.Bits[p%1024/64] ^= 1 << (p % 64)
		turned[s] = k
	}
	for _, p := range slices.Sorted(maps.Keys(tallies)) {
		at, _ := h.tallyAt(p)
		b, _ := tally.Put(tallies[p])
		l = append(l, api.Put{At: other(at), B: b})
	}
	picks = h.r.Picks
	for _, s := range slices.Sorted(maps.Keys(turned)) {
		b, _ := tally.PutPick(turned[s])
		l = append(l, api.Put{At: other(h.pickAt(s)), B: b})
		picks ^= 1 << s
	}
	return l, picks
}

// other is the other one of the two blocks of a page.
func other(at uint32) uint32 {
	if at%2 == 0 {
		return at + 1
	}
	return at - 1
}

// blocks are all addresses of a device of n blocks and some that it does not have; of a great one those around its edges, and of each 97th tally.
func blocks(n uint32) []uint32 {
	first := plan(n).First
	l := []uint32{0, 1, 2, 3, first - 1, first, first + 1, n - 1, n, n + 1, 1<<20 - 1, 1 << 20, 1 << 31, math.MaxUint32}
	step := uint32(1)
	if n > 1000 {
		step = 97 * 64
	}
	for a := uint32(0); a < n; a += step {
		l = append(l, a, a+63)
	}
	for a := uint32(1 << 16); a <= n; a += 1 << 16 {
		l = append(l, a-65, a-64, a-1, a, a+63, a+64)
	}
	return l
}

func want(t *testing.T, what string, got, want api.Errno) {
	t.Helper()
	if got != want {
		t.Errorf("%s: error %d, want %d", what, got, want)
	}
}

// wantCounts asks that a table gives the counts that it has by hand, and the errors, with 0 (R3), twice (R4).
func wantCounts(t *testing.T, what string, x *count.Table, h hand) {
	t.Helper()
	for _, a := range blocks(h.r.Size) {
		for range 2 {
			c, fault := h.old(a)
			if got, e := x.Old(a); got != c || e != fault {
				t.Errorf("%s: Old(%d) gives %d, %d, want %d, %d", what, a, got, e, c, fault)
			}
			c, fault = h.count(a)
			if got, e := x.Get(a); got != c || e != fault {
				t.Errorf("%s: Get(%d) gives %d, %d, want %d, %d", what, a, got, e, c, fault)
			}
		}
	}
	if x.First() != plan(h.r.Size).First || x.Size() != h.r.Size {
		t.Errorf("%s: First %d, Size %d", what, x.First(), x.Size())
	}
}

// wantSeal asks that a table has the changes that it has by hand, and seals them, twice (R4), and writes nothing.
func wantSeal(t *testing.T, what string, x *count.Table, h hand) {
	t.Helper()
	c := h.d.Copy()
	changed := h.changed()
	puts, chosen := h.seal()
	for range 2 {
		if l := x.Changed(); !slices.Equal(l, changed) {
			t.Errorf("%s: changed %v, want %v", what, l, changed)
		}
		l, picks, e := x.Seal()
		if !slices.Equal(l, puts) || picks != chosen || e != api.OK {
			t.Errorf("%s: the seal puts %s, Picks %b, error %d, want %s, %b", what, told(l), picks, e, told(puts), chosen)
		}
	}
	wantSame(t, what, h.d, c)
}

// wantSame asks that two devices have the same blocks and as many pending writes, and have had as many writes and flushes.
func wantSame(t *testing.T, what string, d, c *dev.Dev) {
	t.Helper()
	if d.Pending() != c.Pending() || d.Writes() != c.Writes() || d.Down() != c.Down() {
		t.Errorf("%s: %d pending, %d writes, down: %t, want %d, %d, %t", what, d.Pending(), d.Writes(), d.Down(), c.Pending(), c.Writes(), c.Down())
	}
	for a := range min(d.Size(), 1000) {
		x, _ := d.Read(a)
		if y, _ := c.Read(a); x != y {
			t.Errorf("%s: the block %d is %x.., want %x..", what, a, x[:8], y[:8])
		}
	}
}

// told tells of puts where they go.
func told(l []api.Put) string {
	s := ""
	for _, p := range l {
		s += fmt.Sprintf("%d:%x ", p.At, p.B[:8])
	}
	return s
}

// set asks that a count is set, in a table and by hand.
func set(t *testing.T, x *count.Table, h hand, a uint32, n uint16) {
	t.Helper()
	want(t, fmt.Sprintf("Set(%d, %d)", a, n), x.Set(a, n), api.OK)
	h.set[a] = n
}

// wantSet asks for an error of Set, that sets nothing.
func wantSet(t *testing.T, x *count.Table, a uint32, fault api.Errno) {
	t.Helper()
	before := x.Changed()
	for _, n := range []uint16{0, 1, 65535} {
		want(t, fmt.Sprintf("Set(%d, %d)", a, n), x.Set(a, n), fault)
	}
	if l := x.Changed(); !slices.Equal(l, before) {
		t.Errorf("Set(%d, ..) gives %d, and %v is changed, want %v", a, fault, l, before)
	}
}

// The chapter's examples.
func TestExamples(t *testing.T) {
	d, r := formatted(t, 64)
	x := open(t, d, r)
	if n, e := x.Get(9); n != 0 || e != api.OK || x.First() != 6 || x.Size() != 64 {
		t.Errorf("Get(9) gives %d, %d; First %d, Size %d", n, e, x.First(), x.Size())
	}
	want(t, "Set(9, 2)", x.Set(9, 2), api.OK)
	if n, e := x.Get(9); n != 2 || e != api.OK {
		t.Errorf("Get(9) gives %d, %d, want 2", n, e)
	}
	if n, e := x.Old(9); n != 0 || e != api.OK {
		t.Errorf("Old(9) gives %d, %d, want 0", n, e)
	}
	if l := x.Changed(); !slices.Equal(l, []uint32{9}) {
		t.Errorf("changed %v, want 9", l)
	}
	want(t, "Set(5, 1)", x.Set(5, 1), api.ErrArg)

	y := api.Tally{}
	y.Counts[9] = 2
	page, _ := tally.Put(y)
	pick, _ := tally.PutPick(api.Pick{Bits: [16]uint64{1}})
	l, picks, e := x.Seal()
	if !slices.Equal(l, []api.Put{{At: 5, B: page}, {At: 3, B: pick}}) || picks != 1 || e != api.OK {
		t.Errorf("the seal puts %s, Picks %d, error %d", told(l), picks, e)
	}
	want(t, "Set(9, 0)", x.Set(9, 0), api.OK)
	if l, picks, e := x.Seal(); len(l) != 0 || picks != 0 || e != api.OK {
		t.Errorf("the seal puts %s, Picks %d, error %d, want no puts and 0", told(l), picks, e)
	}
}

// P9.1: roots of another size are refused; nothing else of a root is asked for, but its Picks, and nothing is read.
func TestOpen(t *testing.T) {
	for _, size := range []uint32{64, 65, 200, 1 << 20} {
		d, r := formatted(t, size)
		for _, n := range []uint32{0, 1, 63, 64, 65, size - 1, size + 1, 1 << 20, 1<<20 + 1, 1 << 31, math.MaxUint32} {
			if n == size {
				continue
			}
			r.Size = n
			if x, e := count.Open(d, r); x != nil || e != api.ErrArg {
				t.Errorf("Open of the size %d, on a device of %d, gives %v, %d, want ErrArg", n, size, x, e)
			}
		}
		r.Size = size
		wantCounts(t, "formatted", open(t, d, r), byHand(d, r))
		r = api.Root{Size: size}
		wantCounts(t, "a root of a Size alone", open(t, d, r), byHand(d, r))
		r = api.Root{Size: size, Gen: 9, Names: size, Free: size + 1, Hint: 0, Vols: 200}
		wantCounts(t, "a root that is not valid", open(t, d, r), byHand(d, r))
	}
}

// P9.1: Open reads nothing, so that it does not matter what the blocks of the pages are.
func TestOpenReadsNothing(t *testing.T) {
	n := noise(1)
	d, r := formatted(t, 64)
	for a := range uint32(6) {
		d.Write(a, n.block())
	}
	x := open(t, d, r)
	y := api.Tally{}
	y.Counts[63] = 300
	b, _ := tally.Put(y)
	d.Write(2, api.Block{})
	d.Write(4, b)
	if c, e := x.Get(63); c != 300 || e != api.OK {
		t.Errorf("Get(63) gives %d, %d, want 300, what was written before it was asked for", c, e)
	}
}

// P9.1: the counts of a root, whichever of the two blocks of each page it has, at each block of a device.
func TestCounts(t *testing.T) {
	n := noise(2)
	for _, size := range []uint32{64, 65, 127, 128, 129, 200, 1000} {
		for range 8 {
			for picks := range uint32(2) {
				d, r := filled(t, &n, size, picks)
				wantCounts(t, fmt.Sprintf("%d blocks, Picks %d", size, picks), open(t, d, r), byHand(d, r))
			}
		}
	}
}

// P9.1: each pick has a bit of its own in Picks, and bits of its own for its tallies: devices with two picks and more.
func TestManyPicks(t *testing.T) {
	n := noise(3)
	for _, x := range []struct{ size, picks uint32 }{{65535, 1}, {65536, 0}, {65536, 1}, {65537, 0}, {65537, 1}, {65537, 2}, {65537, 3}, {1<<17 + 1, 5}, {1 << 20, 0xa5c3}} {
		d, r := filled(t, &n, x.size, x.picks)
		wantCounts(t, fmt.Sprintf("%d blocks, Picks %b", x.size, x.picks), open(t, d, r), byHand(d, r))
	}
}

// P9.1, P9.2: bits of Picks that stand for no pick do not matter, and stay.
func TestPicksBeyond(t *testing.T) {
	n := noise(4)
	d, r := filled(t, &n, 200, 1)
	r.Picks = 0xfffffff1
	x, h := open(t, d, r), byHand(d, r)
	wantCounts(t, "Picks beyond", x, h)
	wantSeal(t, "Picks beyond, not set", x, h)
	set(t, x, h, 150, 7)
	set(t, x, h, 151, 8)
	if _, picks, _ := x.Seal(); picks != 0xfffffff0 {
		t.Errorf("Picks %x, want fffffff0", picks)
	}
	wantSeal(t, "Picks beyond", x, h)
}

// P9.1: what is set is the count, and the old count stays; at the edges of a device, and of the counts.
func TestSet(t *testing.T) {
	n := noise(5)
	for _, size := range []uint32{64, 65, 128, 200, 65537} {
		for _, full := range []bool{false, true} {
			d, r := formatted(t, size)
			if full {
				d, r = filled(t, &n, size, 1)
			}
			first := plan(size).First
			x, h := open(t, d, r), byHand(d, r)
			for _, a := range []uint32{first, size - 1, first + 1, size - 2, size / 64 * 64 % size, size/64*64 - 1} {
				if a < first {
					continue
				}
				for _, c := range []uint16{1, 0, 65535, 65534, 65535, 256, 300} {
					set(t, x, h, a, c)
					if got, e := x.Get(a); got != c || e != api.OK {
						t.Errorf("Get(%d) gives %d, %d, want %d, what was set last", a, got, e, c)
					}
				}
			}
			wantCounts(t, "set", x, h)
			for _, a := range []uint32{0, 1, 2, first - 1, size, size + 1, size + 64, 1<<20 + first, 1 << 31, math.MaxUint32} {
				wantSet(t, x, a, api.ErrArg)
			}
			wantCounts(t, "set, and refused", x, h)
			wantSeal(t, "set, and refused", x, h)
		}
	}
}

// P9.1: two tables of one device do not know of each other.
func TestTwoTables(t *testing.T) {
	n := noise(6)
	d, r := filled(t, &n, 200, 0)
	x, y := open(t, d, r), open(t, d, r)
	hx, hy := byHand(d, r), byHand(d, r)
	set(t, x, hx, 30, 7)
	set(t, y, hy, 30, 8)
	set(t, y, hy, 150, 9)
	wantCounts(t, "the first", x, hx)
	wantCounts(t, "the second", y, hy)
	wantSeal(t, "the first", x, hx)
	wantSeal(t, "the second", y, hy)
}

// P9.1: blocks that are no page, or not the one that is needed: ErrBad for its blocks, and for no others; what is no block of the device is told ahead of it.
func TestBad(t *testing.T) {
	n := noise(7)
	tally5, pick0, pick1 := api.Tally{Index: 5}, api.Pick{Index: 0, Bits: [16]uint64{1}}, api.Pick{Index: 1}
	inTally, _ := tally.Put(tally5)
	inPick, _ := tally.PutPick(pick0)
	otherPick, _ := tally.PutPick(pick1)
	torn := n.tally(2)
	torn[200]++
	for _, size := range []uint32{200, 65600} {
		p := plan(size)
		for picks := range uint32(1 << p.Picks) {
			made, r := filled(t, &n, size, picks)
			h := byHand(made, r)
			at2, _ := h.tallyAt(p.First / 64)
			end, _ := h.tallyAt(p.Tallies - 1)
			for _, at := range []uint32{h.pickAt(0), h.pickAt(p.Picks - 1), at2, end} {
				for i, b := range []api.Block{n.block(), torn, inTally, inPick, otherPick} {
					for _, at := range []uint32{at, other(at)} {
						d := made.Copy()
						d.Write(at, b)
						x, h := open(t, d, r), byHand(d, r)
						what := fmt.Sprintf("%d blocks, Picks %b, block %d is %d", size, picks, at, i)
						wantCounts(t, what, x, h)
						wantBad(t, what, x, h)
					}
				}
			}
		}
	}
}

// wantBad asks that Set gives the errors of bad pages, and sets the counts of the others.
func wantBad(t *testing.T, what string, x *count.Table, h hand) {
	t.Helper()
	first, size := plan(h.r.Size).First, h.r.Size
	for _, a := range []uint32{0, first - 1, size, math.MaxUint32} {
		wantSet(t, x, a, api.ErrArg)
	}
	for _, a := range []uint32{first, first + 64, size - 130, size - 65, size - 64, size - 1} {
		if _, e := h.old(a); e != api.OK {
			wantSet(t, x, a, e)
		} else {
			set(t, x, h, a, uint16(a))
		}
	}
	wantCounts(t, what+", set", x, h)
	wantSeal(t, what, x, h)
}

// P9.1: each page that is not valid is told of, whichever error it has: a byte of it changed.
func TestBadBytes(t *testing.T) {
	n := noise(8)
	made, r := formatted(t, 64)
	y := api.Tally{}
	y.Counts[9] = 5
	page, _ := tally.Put(y)
	pick, _ := tally.PutPick(api.Pick{Bits: [16]uint64{1}})
	r.Gen, r.Picks = 2, 1
	want(t, "Commit", root.Commit(made, []api.Put{{At: 5, B: page}, {At: 3, B: pick}}, r), api.OK)
	if c, e := open(t, made, r).Get(9); c != 5 || e != api.OK {
		t.Fatalf("Get(9) gives %d, %d, want 5", c, e)
	}
	for i := range 256 {
		for _, at := range []uint32{3, 5} {
			d := made.Copy()
			b, _ := d.Read(at)
			b[i] ^= byte(1 << n.below(8))
			d.Write(at, b)
			x := open(t, d, r)
			for range 2 {
				if c, e := x.Get(9); c != 0 || e != api.ErrBad {
					t.Errorf("byte %d of the block %d: Get(9) gives %d, %d, want ErrBad", i, at, c, e)
				}
				if c, e := x.Old(9); c != 0 || e != api.ErrBad {
					t.Errorf("byte %d of the block %d: Old(9) gives %d, %d, want ErrBad", i, at, c, e)
				}
			}
			wantSet(t, x, 9, api.ErrBad)
			if l, picks, e := x.Seal(); len(l) != 0 || picks != 1 || e != api.OK {
				t.Errorf("the seal puts %s, Picks %d, error %d, want nothing", told(l), picks, e)
			}
		}
	}
}

// P9.1: blocks below First have the count 0, whatever the tallies say, and whether or not there are tallies.
func TestBelowFirst(t *testing.T) {
	n := noise(9)
	full := api.Tally{}
	for i := range full.Counts {
		full.Counts[i] = 9
	}
	for _, size := range []uint32{64, 1000, 5000} {
		d, r := formatted(t, size)
		p := plan(size)
		for i := range p.Tallies {
			full.Index = i
			b, _ := tally.Put(full)
			d.Write(2+2*p.Picks+2*i, b)
		}
		x := open(t, d, r)
		for a := range p.First {
			if c, e := x.Old(a); c != 0 || e != api.OK {
				t.Errorf("Old(%d) gives %d, %d, want 0", a, c, e)
			}
			if c, e := x.Get(a); c != 0 || e != api.OK {
				t.Errorf("Get(%d) gives %d, %d, want 0", a, c, e)
			}
		}
		if c, e := x.Get(p.First); c != 9 || e != api.OK {
			t.Errorf("Get(%d) gives %d, %d, want 9", p.First, c, e)
		}
		d.Write(2, n.block())
		x = open(t, d, r)
		for a := range p.First {
			if c, e := x.Get(a); c != 0 || e != api.OK {
				t.Errorf("no pick: Get(%d) gives %d, %d, want 0", a, c, e)
			}
		}
	}
}

// A page is read when it is needed for the first time, and what is written afterwards does not matter.
func TestReadOnce(t *testing.T) {
	n := noise(10)
	d, r := filled(t, &n, 300, 1)
	x, h := open(t, d, r), byHand(d.Copy(), r)
	for i, use := range []func(a uint32){
		func(a uint32) { x.Old(a) },
		func(a uint32) { x.Get(a) },
		func(a uint32) { set(t, x, h, a, 77) },
	} {
		// The tallies 1 to 3: a block of each is asked for, and its page is overwritten afterwards.
		p := uint32(i + 1)
		use(p*64 + 5)
		home, _ := h.tallyAt(p)
		d.Write(home, n.block())
	}
	d.Write(h.pickAt(0), n.block())
	for a := uint32(64); a < 256; a++ {
		c, _ := h.old(a)
		if got, e := x.Old(a); got != c || e != api.OK {
			t.Errorf("Old(%d) gives %d, %d, want %d", a, got, e, c)
		}
		c, _ = h.count(a)
		if got, e := x.Get(a); got != c || e != api.OK {
			t.Errorf("Get(%d) gives %d, %d, want %d", a, got, e, c)
		}
	}
	set(t, x, h, 64+6, 78)
	// The pick is kept, so it still tells where the tally 4 is, which is read only now.
	home, _ := h.tallyAt(4)
	y := api.Tally{Index: 4}
	y.Counts[5] = 1234
	b, _ := tally.Put(y)
	d.Write(home, b)
	h.d.Write(home, b)
	if c, e := x.Get(4*64 + 5); c != 1234 || e != api.OK {
		t.Errorf("Get(261) gives %d, %d, want 1234", c, e)
	}
	if l, want := x.Changed(), h.changed(); !slices.Equal(l, want) || len(l) == 0 {
		t.Errorf("changed %v, want %v", l, want)
	}
	l, picks, e := x.Seal()
	if puts, chosen := h.seal(); !slices.Equal(l, puts) || picks != chosen || e != api.OK {
		t.Errorf("the seal puts %s, Picks %d, error %d, want %s, %d", told(l), picks, e, told(puts), chosen)
	}
}

// A page that was not one when it was asked for is read again.
func TestRepaired(t *testing.T) {
	n := noise(11)
	made, r := filled(t, &n, 200, 1)
	h := byHand(made, r)
	home, _ := h.tallyAt(2)
	for _, at := range []uint32{home, h.pickAt(0)} {
		d := made.Copy()
		d.Write(at, n.block())
		x := open(t, d, r)
		for _, e := range []api.Errno{errorOf(x.Get(150)), errorOf(x.Old(150)), x.Set(150, 7)} {
			want(t, "a bad page", e, api.ErrBad)
		}
		b, _ := made.Read(at)
		d.Write(at, b)
		wantCounts(t, "repaired", x, h)
		wantSeal(t, "repaired", x, h)
	}
}

func errorOf(_ uint16, e api.Errno) api.Errno { return e }

// What is read of a page is the last pending write, also of a device that is down.
func TestPendingAndDown(t *testing.T) {
	n := noise(12)
	d, r := filled(t, &n, 200, 0)
	home, _ := byHand(d, r).tallyAt(2)
	d.Write(home, n.block())
	y := api.Tally{Index: 2}
	y.Counts[20] = 42
	b, _ := tally.Put(y)
	d.Write(home, b)
	d.Fuse(0)
	d.Flush()
	x, h := open(t, d, r), byHand(d, r)
	if c, e := x.Get(148); c != 42 || e != api.OK || !d.Down() {
		t.Errorf("Get(148) gives %d, %d, want 42", c, e)
	}
	wantCounts(t, "down", x, h)
	set(t, x, h, 148, 43)
	wantSeal(t, "down", x, h)
}

// P9.2: a block is changed as long as its count is not the old one, in whatever order the counts are set.
func TestChanged(t *testing.T) {
	n := noise(13)
	d, r := filled(t, &n, 1000, 1)
	x, h := open(t, d, r), byHand(d, r)
	wantSeal(t, "nothing set", x, h)
	all := []uint32{}
	for a := plan(1000).First; a < 1000; a++ {
		all = append(all, a)
	}
	for i := range all {
		j := n.below(i + 1)
		all[i], all[j] = all[j], all[i]
	}
	for _, a := range all[:300] {
		old, _ := h.old(a)
		set(t, x, h, a, old)
	}
	if l := x.Changed(); len(l) != 0 {
		t.Errorf("set to the old counts: changed %v", l)
	}
	wantSeal(t, "set to the old counts", x, h)
	for i, a := range all {
		old, _ := h.old(a)
		set(t, x, h, a, old+1+uint16(n.below(65535)))
		if i%50 == 0 {
			wantSeal(t, "some", x, h)
		}
	}
	if l := x.Changed(); len(l) != len(all) || !slices.IsSorted(l) {
		t.Errorf("%d blocks are changed, want %d, in increasing order", len(l), len(all))
	}
	wantSeal(t, "all", x, h)
	wantCounts(t, "all", x, h)
	for i, a := range all {
		old, _ := h.old(a)
		set(t, x, h, a, old)
		if i%50 == 0 {
			wantSeal(t, "some set back", x, h)
		}
	}
	if l := x.Changed(); len(l) != 0 {
		t.Errorf("set back: changed %v", l)
	}
	wantSeal(t, "set back", x, h)
	wantCounts(t, "set back", x, h)
}

// P9.2: one block of each tally alone, and several of one, whichever of its blocks each page has.
func TestSeal(t *testing.T) {
	n := noise(14)
	for _, size := range []uint32{64, 65, 128, 200, 300} {
		for picks := range uint32(2) {
			d, r := filled(t, &n, size, picks)
			for a := plan(size).First; a < size; a++ {
				x, h := open(t, d, r), byHand(d, r)
				old, _ := h.old(a)
				set(t, x, h, a, old^uint16(1<<n.below(16)))
				wantSeal(t, fmt.Sprintf("%d blocks, Picks %d, %d set", size, picks, a), x, h)
				for range 3 {
					if near := a/64*64 + uint32(n.below(64)); near >= plan(size).First && near < size {
						set(t, x, h, near, n.count())
					}
				}
				wantSeal(t, fmt.Sprintf("%d blocks, Picks %d, near %d", size, picks, a), x, h)
			}
		}
	}
}

// P9.2: the counts of a tally for blocks below First, and beyond the last block, stay as they are in it.
func TestSealKeepsTheRest(t *testing.T) {
	full := api.Tally{}
	for i := range full.Counts {
		full.Counts[i] = uint16(1000 + i)
	}
	b, _ := tally.Put(full)
	d, r := formatted(t, 65)
	d.Write(4, b) // the tally 0; First is 8
	full.Index = 1
	b, _ = tally.Put(full)
	d.Write(6, b) // the tally 1, of which only the first block is there
	x := open(t, d, r)
	want(t, "Set", x.Set(8, 1), api.OK)
	want(t, "Set", x.Set(64, 2), api.OK)
	l, picks, e := x.Seal()
	if len(l) != 3 || picks != 1 || e != api.OK {
		t.Fatalf("the seal puts %s, Picks %d, error %d", told(l), picks, e)
	}
	for i, turn := range []int{8, 0} {
		full.Index = uint32(i)
		y := full
		y.Counts[turn] = uint16(i + 1)
		b, _ := tally.Put(y)
		if l[i] != (api.Put{At: uint32(5 + 2*i), B: b}) {
			t.Errorf("the tally %d is put as %s", i, told(l[i:i+1]))
		}
	}
}

// P9.2: the tallies come first, then the picks, each in increasing order; picks without a changed tally are not put.
func TestSealOrder(t *testing.T) {
	n := noise(15)
	const size = 1 << 20
	d, r := filled(t, &n, size, 0x33aa)
	x, h := open(t, d, r), byHand(d, r)
	for _, a := range []uint32{15<<16 + 70, size - 1, 9<<16 - 1, 9 << 16, 9<<16 + 63, 4<<16 + 64*1023, 4 << 16, plan(size).First, 15 << 16, 1<<16 - 64} {
		old, _ := h.old(a)
		set(t, x, h, a, old+1)
		wantSeal(t, fmt.Sprintf("%d set", a), x, h)
	}
	l, picks, _ := x.Seal()
	// The blocks 9<<16 and 9<<16 + 63 are of one tally, so 9 tallies are put, and the picks 0, 4, 8, 9 and 15.
	if len(l) != 9+5 || picks != 0x33aa^0x8311 {
		t.Errorf("the seal puts %d blocks, Picks %x", len(l), picks)
	}
	wantCounts(t, "all", x, h)
	old, _ := h.old(9<<16 - 1)
	set(t, x, h, 9<<16-1, old)
	if l, picks, _ := x.Seal(); len(l) != 8+4 || picks != 0x33aa^0x8211 {
		t.Errorf("set back: the seal puts %d blocks, Picks %x", len(l), picks)
	}
	wantSeal(t, "set back", x, h)
}

// P9.1, P9.2: any calls.
func TestAnyCalls(t *testing.T) {
	n := noise(16)
	for range 40 {
		size := 64 + uint32(n.below(300))
		d, r := filled(t, &n, size, uint32(n.below(2)))
		x, h := open(t, d, r), byHand(d, r)
		first := plan(size).First
		for range 100 {
			a := first + uint32(n.below(int(size-first)))
			switch n.below(4) {
			case 0:
				old, _ := h.old(a)
				set(t, x, h, a, old)
			case 1:
				wantSeal(t, "any calls", x, h)
			default:
				set(t, x, h, a, n.count())
			}
		}
		wantCounts(t, "any calls", x, h)
		wantSeal(t, "any calls", x, h)
	}
}

// P9.1 to P9.3: a nil pointer, and a zero object, is no table, and no device; that comes first.
func TestNone(t *testing.T) {
	for _, d := range []*dev.Dev{nil, new(dev.Dev)} {
		for _, r := range []api.Root{{}, {Size: 64}, {Gen: 1, Size: 64, Free: 58, Next: 1, Hint: 6}} {
			if x, e := count.Open(d, r); x != nil || e != api.ErrNil {
				t.Errorf("Open gives %v, %d, want no table and ErrNil", x, e)
			}
		}
	}
	for _, x := range []*count.Table{nil, new(count.Table)} {
		for range 2 {
			for _, a := range []uint32{0, 5, 6, 63, 64, math.MaxUint32} {
				if c, e := x.Old(a); c != 0 || e != api.ErrNil {
					t.Errorf("Old gives %d, %d, want ErrNil", c, e)
				}
				if c, e := x.Get(a); c != 0 || e != api.ErrNil {
					t.Errorf("Get gives %d, %d, want ErrNil", c, e)
				}
				want(t, "Set", x.Set(a, 1), api.ErrNil)
			}
			if l := x.Changed(); len(l) != 0 {
				t.Errorf("changed %v, want nothing", l)
			}
			if l, picks, e := x.Seal(); len(l) != 0 || picks != 0 || e != api.ErrNil {
				t.Errorf("the seal puts %s, Picks %d, error %d, want ErrNil", told(l), picks, e)
			}
			if x.First() != 0 || x.Size() != 0 {
				t.Errorf("First %d, Size %d, want 0, 0", x.First(), x.Size())
			}
		}
	}
}

// P9.3: First and Size at the sizes where a page is added.
func TestFirstAndSize(t *testing.T) {
	for size, first := range map[uint32]uint32{64: 6, 65: 8, 128: 8, 129: 10, 1000: 36, 65536: 2052, 65537: 2056, 1 << 20: 32802} {
		d, r := formatted(t, size)
		if x := open(t, d, r); x.First() != first || x.Size() != size {
			t.Errorf("%d blocks: First %d, Size %d, want %d", size, x.First(), x.Size(), first)
		}
	}
}

// R5: what is returned is new memory, with all that lies behind it.
func TestResultsAreNew(t *testing.T) {
	n := noise(17)
	d, r := filled(t, &n, 300, 1)
	x, h := open(t, d, r), byHand(d, r)
	for a := uint32(20); a < 300; a += 7 {
		set(t, x, h, a, n.count())
	}
	for range 3 {
		l := x.Changed()
		l = l[:cap(l)]
		for i := range l {
			l[i] = 9
		}
		puts, _, _ := x.Seal()
		puts = puts[:cap(puts)]
		for i := range puts {
			puts[i] = api.Put{At: 9, B: n.block()}
		}
		wantSeal(t, "results changed", x, h)
	}
	wantCounts(t, "results changed", x, h)
}
