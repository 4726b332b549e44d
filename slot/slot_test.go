package slot_test

import (
	"fmt"
	"math"
	"strings"
	"testing"

	"pantile/api"
	"pantile/crc"
	"pantile/field"
	"pantile/slot"
)

const (
	genAt  = 1  // the first byte of Gen
	behind = 34 // the first byte behind the fields
	sumAt  = 252
)

// noise is a source of numbers that are the same in each run.
type noise uint64

func (n *noise) next() uint64 {
	*n = *n*6364136223846793005 + 1442695040888963407
	return uint64(*n) ^ uint64(*n)>>33
}

func (n *noise) below(end int) int { return int(n.next() % uint64(end)) }

func (n *noise) block() (b api.Block) {
	for i := range b {
		b[i] = byte(n.next())
	}
	return b
}

// root is a valid one, of which often some numbers are at an edge.
func (n *noise) root() api.Root {
	r := api.Root{Gen: 1 + n.next()>>n.below(64), Size: uint32(64 + n.below(1<<20-63)), Next: uint32(1 + n.below(math.MaxUint32))}
	if n.below(3) == 0 {
		r.Size = []uint32{64, 65, 1 << 20}[n.below(3)]
	}
	r.Gen = max(r.Gen, 1)
	r.Picks = uint32(n.below(1 << n.below(17)))
	r.Free = uint32(n.below(int(r.Size) + 1))
	r.Hint = uint32(n.below(int(r.Size)))
	if n.below(4) > 0 {
		r.Vols, r.Names = uint8(1+n.below(16)), uint32(1+n.below(int(r.Size)-1))
	}
	return r
}

// small is the root of the chapter's examples.
func small() api.Root { return api.Root{Gen: 1, Size: 64, Next: 1, Hint: 6, Free: 58} }

// least is the valid root with the least in it.
func least() api.Root { return api.Root{Gen: 1, Size: 64, Next: 1} }

// full is a valid root whose numbers, and the bytes of each, are different ones.
func full() api.Root {
	return api.Root{Gen: 0x0807060504030201, Size: 0x0d0c0b, Picks: 0x1211, Names: 0x0c2221, Free: 0x0c3231, Next: 0x44434241, Hint: 0x0c5251, Vols: 7}
}

// greatest is the valid root with the most in it.
func greatest() api.Root {
	return api.Root{Gen: math.MaxUint64, Size: 1 << 20, Picks: 1<<16 - 1, Names: 1<<20 - 1, Free: 1 << 20, Next: math.MaxUint32, Hint: 1<<20 - 1, Vols: 16}
}

func bases() []api.Root { return []api.Root{small(), least(), full(), greatest()} }

// with is r, changed.
func with(r api.Root, change func(r *api.Root)) api.Root {
	change(&r)
	return r
}

// changes are all ways to set one number of a root to n, or to what is left of n in its type.
func changes(n uint64) []func(r *api.Root) {
	return []func(r *api.Root){
		func(r *api.Root) { r.Gen = n },
		func(r *api.Root) { r.Size = uint32(n) },
		func(r *api.Root) { r.Picks = uint32(n) },
		func(r *api.Root) { r.Names = uint32(n) },
		func(r *api.Root) { r.Free = uint32(n) },
		func(r *api.Root) { r.Next = uint32(n) },
		func(r *api.Root) { r.Hint = uint32(n) },
		func(r *api.Root) { r.Vols = uint8(n) },
	}
}

// edges are roots around all edges that the chapter names; each is valid, or not, as valid says.
func edges() []api.Root {
	l := append(bases(), api.Root{})
	ends := []uint64{0, 1, 2, 15, 16, 17, 63, 64, 65, 128, 255, 256, 1<<16 - 1, 1 << 16, 1<<16 + 1, 1<<20 - 1, 1 << 20, 1<<20 + 1, 1 << 31, 1<<32 - 1, 1 << 32, 1 << 63, math.MaxUint64}
	for _, base := range bases() {
		for _, n := range ends {
			for _, change := range changes(n) {
				l = append(l, with(base, change))
			}
			for _, other := range ends {
				l = append(l,
					with(base, func(r *api.Root) { r.Names, r.Vols = uint32(n), uint8(other) }),
					with(base, func(r *api.Root) { r.Size, r.Free = uint32(n), uint32(other) }),
					with(base, func(r *api.Root) { r.Size, r.Hint = uint32(n), uint32(other) }),
					with(base, func(r *api.Root) { r.Size, r.Names, r.Vols = uint32(n), uint32(other), 1 }))
			}
		}
	}
	return append(l, edgesOfSize()...)
}

// edgesOfSize are roots whose numbers are around their Size, also if that is not valid.
func edgesOfSize() []api.Root {
	var l []api.Root
	for _, size := range []uint32{0, 1, 63, 64, 65, 1 << 16, 1<<20 - 1, 1 << 20, 1<<20 + 1, math.MaxUint32} {
		for _, n := range []uint32{0, 1, size - 1, size, size + 1} {
			for _, hint := range []uint32{0, size - 1, size} {
				for _, free := range []uint32{0, size, size + 1} {
					for _, vols := range []uint8{0, 1, 16, 17} {
						l = append(l, api.Root{Gen: 2, Size: size, Names: n, Free: free, Next: 3, Hint: hint, Vols: vols})
					}
				}
			}
		}
	}
	return l
}

// valid tells it by what the chapter says, one condition after the other.
func valid(r api.Root) bool {
	switch {
	case r.Gen == 0, r.Next == 0:
		return false
	case r.Size < 64, r.Size > 1048576:
		return false
	case r.Picks > 65535:
		return false
	case r.Names >= r.Size, r.Hint >= r.Size, r.Free > r.Size:
		return false
	case r.Vols > 16:
		return false
	case r.Vols == 0 && r.Names != 0, r.Vols != 0 && r.Names == 0:
		return false
	}
	return true
}

// sealed is a block that begins with these bytes.
func sealed(s string) api.Block {
	var b api.Block
	copy(b[:sumAt], s)
	return crc.Seal(b)
}

// laid is the block of any root, byte by byte, as the chapter says it (also of one that is not valid).
func laid(r api.Root) api.Block {
	s := []byte{0x52}
	gen := r.Gen
	for range 8 {
		s = append(s, byte(gen%256))
		gen /= 256
	}
	for _, n := range []uint32{r.Size, r.Picks, r.Names, r.Free, r.Next, r.Hint} {
		for range 4 {
			s = append(s, byte(n%256))
			n /= 256
		}
	}
	return sealed(string(append(s, r.Vols)))
}

// said is the root that a block says by its bytes alone, and whether it is the block of a valid root.
func said(b api.Block) (r api.Root, ok bool) {
	num := func(at, width int) (n uint64) {
		for i := range width {
			n += uint64(b[at+i]) << (8 * i)
		}
		return n
	}
	four := func(at int) uint32 { return uint32(num(at, 4)) }
	r = api.Root{Gen: num(1, 8), Size: four(9), Picks: four(13), Names: four(17), Free: four(21), Next: four(25), Hint: four(29), Vols: b[33]}
	return r, valid(r) && laid(r) == b
}

// wantBad asks that Get refuses b, and returns no root then (R3).
func wantBad(t *testing.T, what string, b api.Block) {
	t.Helper()
	if r, e := slot.Get(b); r != (api.Root{}) || e != api.ErrBad {
		t.Errorf("%s: Get gives %v, %d, want no root and ErrBad", what, r, e)
	}
}

// wantArg asks that r is not valid, and that Put returns no block then (R3).
func wantArg(t *testing.T, what string, r api.Root) {
	t.Helper()
	if slot.May(r) {
		t.Errorf("%s: %v may be", what, r)
	}
	if b, e := slot.Put(r); b != (api.Block{}) || e != api.ErrArg {
		t.Errorf("%s: Put of %v gives %x.., %d, want no block and ErrArg", what, r, b[:8], e)
	}
}

// wantBoth asks that a valid root and its block are each other's, and that asking again answers the same (R4).
func wantBoth(t *testing.T, r api.Root) {
	t.Helper()
	want := laid(r)
	for range 2 {
		if !slot.May(r) {
			t.Errorf("%v may not be", r)
		}
		if b, e := slot.Put(r); b != want || e != api.OK {
			t.Errorf("Put of %v gives %x, %d, want %x", r, b, e, want)
		}
		if got, e := slot.Get(want); got != r || e != api.OK {
			t.Errorf("Get gives %v, %d, want %v", got, e, r)
		}
	}
}

// wantSaid asks that Get returns of a block what its bytes say.
func wantSaid(t *testing.T, what string, b api.Block) {
	t.Helper()
	want, ok := said(b)
	if !ok {
		wantBad(t, what, b)
	} else if got, e := slot.Get(b); got != want || e != api.OK {
		t.Errorf("%s: Get gives %v, %d, want %v", what, got, e, want)
	}
}

// P7.1, P7.2: the chapter's examples.
func TestExamples(t *testing.T) {
	b, e := slot.Put(small())
	want := "\x52\x01" + strings.Repeat("\x00", 7) + "\x40\x00\x00\x00" + strings.Repeat("\x00", 8) + "\x3a\x00\x00\x00" + "\x01\x00\x00\x00" + "\x06\x00\x00\x00" + "\x00"
	if string(b[:len(want)]) != want || e != api.OK || !slot.May(small()) {
		t.Errorf("Put gives %x, %d", b, e)
	}
	wantArg(t, "Gen 0", with(small(), func(r *api.Root) { r.Gen = 0 }))
	wantArg(t, "Vols 1", with(small(), func(r *api.Root) { r.Vols = 1 }))
	wantArg(t, "Names 64", with(small(), func(r *api.Root) { r.Names = 64 }))
	c, _ := slot.Put(with(small(), func(r *api.Root) { r.Gen = 3 }))
	wantBad(t, "torn", slot.Torn(b, c, 1))
}

// P7.1: the bytes of a block, one by one.
func TestBytes(t *testing.T) {
	want := sealed("\x52\x01\x02\x03\x04\x05\x06\x07\x08\x0b\x0c\x0d\x00\x11\x12\x00\x00\x21\x22\x0c\x00\x31\x32\x0c\x00\x41\x42\x43\x44\x51\x52\x0c\x00\x07")
	if b, e := slot.Put(full()); b != want || e != api.OK || !crc.Good(b) {
		t.Errorf("Put gives %x, %d, want %x", b, e, want)
	}
	if r, e := slot.Get(want); r != full() || e != api.OK {
		t.Errorf("Get gives %v, %d", r, e)
	}
	for _, r := range bases() {
		wantBoth(t, r)
	}
}

// P7.1, P7.2: all edges: a valid root and its block are each other's; one that is not valid has no block, and what would be its block is refused.
func TestEdges(t *testing.T) {
	taken, refused := 0, 0
	for _, r := range edges() {
		if valid(r) {
			taken++
			wantBoth(t, r)
			continue
		}
		refused++
		wantArg(t, "an edge", r)
		wantBad(t, fmt.Sprintf("the block of %v", r), laid(r))
	}
	if taken < 200 || refused < 200 {
		t.Errorf("%d edges are valid, %d are not: too few to tell", taken, refused)
	}
}

// P7.1, P7.2: each condition alone, at both of its sides.
func TestMay(t *testing.T) {
	for i, x := range []struct {
		want   bool
		change func(r *api.Root)
	}{
		{true, func(r *api.Root) {}},
		{false, func(r *api.Root) { r.Gen = 0 }},
		{true, func(r *api.Root) { r.Gen = 1 }},
		{true, func(r *api.Root) { r.Gen = 1 << 32 }},
		{true, func(r *api.Root) { r.Gen = math.MaxUint64 }},
		{false, func(r *api.Root) { *r = least(); r.Size = 63 }},
		{true, func(r *api.Root) { *r = least(); r.Size = 64 }},
		{true, func(r *api.Root) { r.Size = 1 << 20 }},
		{false, func(r *api.Root) { r.Size = 1<<20 + 1 }},
		{false, func(r *api.Root) { r.Size = math.MaxUint32 }},
		{false, func(r *api.Root) { r.Size, r.Names, r.Free, r.Hint, r.Vols = 0, 0, 0, 0, 0 }},
		{true, func(r *api.Root) { r.Picks = 0 }},
		{true, func(r *api.Root) { r.Picks = 65535 }},
		{false, func(r *api.Root) { r.Picks = 65536 }},
		{false, func(r *api.Root) { r.Picks = math.MaxUint32 }},
		{true, func(r *api.Root) { r.Names = 1 }},
		{true, func(r *api.Root) { r.Names = r.Size - 1 }},
		{false, func(r *api.Root) { r.Names = r.Size }},
		{false, func(r *api.Root) { r.Names = math.MaxUint32 }},
		{true, func(r *api.Root) { r.Free = 0 }},
		{true, func(r *api.Root) { r.Free = r.Size }},
		{false, func(r *api.Root) { r.Free = r.Size + 1 }},
		{false, func(r *api.Root) { r.Free = math.MaxUint32 }},
		{false, func(r *api.Root) { r.Next = 0 }},
		{true, func(r *api.Root) { r.Next = 1 }},
		{true, func(r *api.Root) { r.Next = math.MaxUint32 }},
		{true, func(r *api.Root) { r.Hint = 0 }},
		{true, func(r *api.Root) { r.Hint = r.Size - 1 }},
		{false, func(r *api.Root) { r.Hint = r.Size }},
		{false, func(r *api.Root) { r.Hint = math.MaxUint32 }},
		{true, func(r *api.Root) { r.Vols = 1 }},
		{true, func(r *api.Root) { r.Vols = 16 }},
		{false, func(r *api.Root) { r.Vols = 17 }},
		{false, func(r *api.Root) { r.Vols = 255 }},
		{false, func(r *api.Root) { r.Vols = 0 }},
		{false, func(r *api.Root) { r.Names = 0 }},
		{true, func(r *api.Root) { r.Vols, r.Names = 0, 0 }},
	} {
		r := with(full(), x.change)
		if slot.May(r) != x.want || valid(r) != x.want {
			t.Errorf("case %d: May of %v gives %t, want %t", i, r, slot.May(r), x.want)
		}
		if x.want {
			wantBoth(t, r)
		} else {
			wantArg(t, "a condition", r)
			wantBad(t, fmt.Sprintf("the block of %v", r), laid(r))
		}
	}
}

// P7.1: each bit of each number has its own place; those that make the root not valid are refused.
func TestEachPlace(t *testing.T) {
	for bit := range 64 {
		for _, base := range bases() {
			for _, change := range changes(1 << bit) {
				r := with(base, change)
				if valid(r) {
					wantBoth(t, r)
				} else {
					wantArg(t, "a bit", r)
				}
			}
		}
	}
}

// P7.2: nothing but zeros lies behind the last field.
func TestGetBehind(t *testing.T) {
	for i := behind; i < sumAt; i++ {
		for _, c := range []byte{1, 0x80, 0xff} {
			for _, r := range bases() {
				b := laid(r)
				b[i] = c
				wantBad(t, fmt.Sprintf("byte %d behind the fields", i), crc.Seal(b))
			}
		}
	}
}

// written is a block with the magic of roots: the fields of full in these widths, and then one more number, unless its width is 0.
func written(t *testing.T, gen, four, vols, more int) api.Block {
	t.Helper()
	r, w := full(), field.New()
	w.Num(r.Gen, gen)
	for _, n := range []uint32{r.Size, r.Picks, r.Names, r.Free, r.Next, r.Hint} {
		w.Num(uint64(n), four)
	}
	w.Num(uint64(r.Vols), vols)
	if more != 0 {
		w.Num(1, more)
	}
	b, e := w.Done(0x52)
	if e != api.OK {
		t.Fatalf("widths %d, %d, %d and %d are not written: %d", gen, four, vols, more, e)
	}
	return b
}

// P7.2: fields of other widths, and one more, are refused. A wider Vols is the same bytes, with zeros behind them.
func TestGetWidths(t *testing.T) {
	widths := []int{1, 2, 4, 8}
	for _, width := range widths {
		if width != 8 {
			wantBad(t, fmt.Sprintf("Gen of %d bytes", width), written(t, width, 4, 1, 0))
		}
		if width != 4 {
			wantBad(t, fmt.Sprintf("numbers of %d bytes", width), written(t, 8, width, 1, 0))
		}
		wantBad(t, fmt.Sprintf("one more number of %d bytes", width), written(t, 8, 4, 1, width))
		if got, e := slot.Get(written(t, 8, 4, width, 0)); got != full() || e != api.OK {
			t.Errorf("Vols of %d bytes: Get gives %v, %d", width, got, e)
		}
	}
}

// P7.2: fields that end too early make a block that zeros complete: what it says then counts.
func TestGetEarly(t *testing.T) {
	for _, r := range bases() {
		b := laid(r)
		for i := behind; i >= 0; i-- {
			b[i] = 0
			wantSaid(t, fmt.Sprintf("%v until byte %d", r, i), crc.Seal(b))
		}
	}
	wantBad(t, "nothing but a magic", sealed("\x52"))
}

// P7.2: a block with another magic is refused.
func TestGetMagic(t *testing.T) {
	for magic := range 256 {
		if magic != 0x52 {
			b := laid(full())
			b[0] = byte(magic)
			wantBad(t, "another magic", b)
			wantBad(t, "another magic, sealed", crc.Seal(b))
		}
	}
}

// P7.2: a block of which a byte is inverted is not sealed any more, and one that is sealed again counts as what it then says.
func TestGetTurned(t *testing.T) {
	for _, r := range bases() {
		b := laid(r)
		for i := range b {
			for _, turn := range []byte{1, 2, 4, 8, 16, 32, 64, 128, 255} {
				x := b
				x[i] ^= turn
				wantBad(t, fmt.Sprintf("byte %d turned by %d", i, turn), x)
				wantSaid(t, fmt.Sprintf("byte %d turned by %d, sealed again", i, turn), crc.Seal(x))
			}
		}
	}
}

// P7.2: each value of each byte of the fields, sealed again.
func TestGetEachByte(t *testing.T) {
	for _, r := range bases() {
		for i := range behind {
			for c := range 256 {
				b := laid(r)
				b[i] = byte(c)
				wantSaid(t, fmt.Sprintf("byte %d is %d", i, c), crc.Seal(b))
			}
		}
	}
}

// P7.2: zero blocks, sealed or not, blocks of other layers, and blocks of noise are refused.
func TestGetOther(t *testing.T) {
	wantBad(t, "the zero block", api.Block{})
	wantBad(t, "the zero block, sealed", crc.Seal(api.Block{}))
	b := laid(full())
	clear(b[sumAt:])
	wantBad(t, "a block without a checksum", b)
	n := noise(1)
	for range 300 {
		b := n.block()
		wantBad(t, "noise", b)
		wantBad(t, "noise, sealed", crc.Seal(b))
		b[0] = 0x52
		wantBad(t, "noise with the magic", crc.Seal(b))
		clear(b[behind:])
		wantSaid(t, "fields of noise", crc.Seal(b))
	}
}

// torn lays old and now together byte by byte, as the chapter says it.
func torn(old, now api.Block, sectors int) (b api.Block) {
	for i := range b {
		b[i] = old[i]
		for s, bit := range []int{1, 2, 4, 8} {
			if i/64 == s && sectors&bit != 0 {
				b[i] = now[i]
			}
		}
	}
	return b
}

// P7.3: each set of sectors, and any bits above the lowest four, of blocks that differ in each byte.
func TestTorn(t *testing.T) {
	var low, high api.Block
	for i := range low {
		low[i], high[i] = byte(i), byte(i)^0xff
	}
	n := noise(2)
	pairs := [][2]api.Block{{low, high}, {high, low}, {low, low}, {{}, high}, {low, {}}, {n.block(), n.block()}, {laid(small()), laid(full())}}
	for _, p := range pairs {
		before := p
		for sectors := range 256 {
			for range 2 {
				if got, want := slot.Torn(p[0], p[1], uint8(sectors)), torn(p[0], p[1], sectors); got != want {
					t.Errorf("sectors %d of %x.. and %x..: %x, want %x", sectors, p[0][:4], p[1][:4], got, want)
				}
			}
			if slot.Torn(p[0], p[1], uint8(sectors)) != slot.Torn(p[0], p[1], uint8(sectors)&15) {
				t.Errorf("sectors %d: the bits above the lowest four stand for something", sectors)
			}
		}
		if p != before {
			t.Error("Torn changes what it is given")
		}
	}
}

// P7.3: no sector is the old block, all are the new one, and each alone is at its own bytes.
func TestTornPlain(t *testing.T) {
	var old, now api.Block
	for i := range old {
		old[i], now[i] = 'o', 'n'
	}
	if slot.Torn(old, now, 0) != old || slot.Torn(old, now, 16) != old || slot.Torn(old, now, 15) != now || slot.Torn(old, now, 255) != now {
		t.Error("none, or all, of the sectors")
	}
	for s := range 4 {
		b := slot.Torn(old, now, 1<<s)
		if want := strings.Repeat("o", 64*s) + strings.Repeat("n", 64) + strings.Repeat("o", 192-64*s); string(b[:]) != want {
			t.Errorf("sector %d: %s", s, b[:])
		}
	}
}

// P7.4: a root and its block determine each other.
func TestBackAndForth(t *testing.T) {
	n := noise(3)
	seen := map[api.Block]api.Root{}
	for range 3000 {
		r := n.root()
		if !valid(r) {
			t.Fatalf("%v is not valid", r)
		}
		wantBoth(t, r)
		b, _ := slot.Put(r)
		if other, there := seen[b]; there && other != r {
			t.Fatalf("%v and %v have the same block", r, other)
		}
		seen[b] = r
		got, _ := slot.Get(b)
		if again, e := slot.Put(got); got != r || again != b || e != api.OK {
			t.Fatalf("%v comes back as %v, its block %x as %x", r, got, b, again)
		}
	}
}

// P7.4: of blocks with any bytes changed, and sealed again, those that Get accepts are what Put makes of the root.
func TestReadIsWrittenAgain(t *testing.T) {
	n := noise(4)
	taken, refused := 0, 0
	for range 5000 {
		b := laid(n.root())
		for range 1 + n.below(3) {
			b[n.below(40)] = byte(n.next()) >> n.below(9)
		}
		b = crc.Seal(b)
		wantSaid(t, "changed", b)
		r, e := slot.Get(b)
		if e != api.OK {
			refused++
			continue
		}
		taken++
		if again, e := slot.Put(r); again != b || e != api.OK {
			t.Fatalf("%x is read as %v, and written as %x, %d", b, r, again, e)
		}
	}
	if taken < 200 || refused < 200 {
		t.Errorf("%d blocks are taken, %d are not: too few to tell", taken, refused)
	}
}

// wantOneOf asks that all blocks torn of the blocks of two roots are that of one of them, or of none; and which, as all fields are in the first sector and the checksum is in the last.
func wantOneOf(t *testing.T, old, now api.Root) {
	t.Helper()
	a, _ := slot.Put(old)
	b, _ := slot.Put(now)
	sameSum := string(a[sumAt:]) == string(b[sumAt:])
	for sectors := range 256 {
		x := slot.Torn(a, b, uint8(sectors))
		first, last := sectors&1 != 0, sectors&8 != 0
		want := old
		if first {
			want = now
		}
		switch got, e := slot.Get(x); {
		case old != now && first != last && !sameSum:
			wantBad(t, fmt.Sprintf("sectors %d of %v and %v", sectors, old, now), x)
		case got != want || e != api.OK:
			t.Errorf("sectors %d of %v and %v: Get gives %v, %d, want %v", sectors, old, now, got, e, want)
		}
	}
}

// P7.5: roots of which all fields differ, only one does, or none.
func TestTornRoots(t *testing.T) {
	for _, a := range bases() {
		for _, b := range bases() {
			wantOneOf(t, a, b)
		}
	}
	others := []func(r *api.Root){
		func(r *api.Root) { r.Gen++ },
		func(r *api.Root) { r.Size++ },
		func(r *api.Root) { r.Picks ^= 1 },
		func(r *api.Root) { r.Names-- },
		func(r *api.Root) { r.Free-- },
		func(r *api.Root) { r.Next++ },
		func(r *api.Root) { r.Hint-- },
		func(r *api.Root) { r.Vols++ },
	}
	all := full()
	for i, change := range others {
		change(&all)
		wantOneOf(t, full(), with(full(), change))
		wantOneOf(t, with(full(), change), full())
		for _, more := range others[:i] {
			wantOneOf(t, with(full(), change), with(full(), more))
		}
	}
	wantOneOf(t, full(), all)
	wantOneOf(t, all, full())
}

// P7.5: any two roots, and a root with the one that follows it.
func TestTornAny(t *testing.T) {
	n := noise(5)
	for range 200 {
		a := n.root()
		wantOneOf(t, a, n.root())
		wantOneOf(t, a, with(a, func(r *api.Root) { r.Gen = max(r.Gen+1, 1) }))
		b := n.root()
		b.Gen = a.Gen
		wantOneOf(t, a, b)
	}
}

// P7.5: different roots with the same checksum: any tear is one of them still, whichever has the first sector.
func TestTornSameChecksum(t *testing.T) {
	// The 33 bits of the checksum's polynomial, laid into Gen, leave the checksum as it is.
	const poly = "\x01\x04\xc1\x1d\xb7"
	n := noise(6)
	for at := genAt; at+len(poly) <= genAt+8; at++ {
		for _, a := range append(bases(), n.root(), n.root()) {
			b := laid(a)
			for i := range len(poly) {
				b[at+i] ^= poly[i]
			}
			other, e := slot.Get(b)
			if other == a || e != api.OK || !crc.Good(b) {
				t.Fatalf("%v: not another root with the same checksum: %v, %d", a, other, e)
			}
			wantOneOf(t, a, other)
			wantOneOf(t, other, a)
		}
	}
}
