package tally_test

import (
	"math"
	"testing"

	"pantile/api"
	"pantile/crc"
	"pantile/field"
	"pantile/tally"
)

const (
	tallies = 16384 // the Indices of valid tallies are below it
	picks   = 16    // and those of valid picks below this
	behind  = 133   // the first byte behind the fields of both
)

// noise is a source of numbers that are the same in each run.
type noise uint64

func (n *noise) next() uint64 {
	*n = *n*6364136223846793005 + 1442695040888963407
	return uint64(*n) ^ uint64(*n)>>33
}

func (n *noise) below(end int) int { return int(n.next() % uint64(end)) }

// tally is a valid one, of which often some counts are 0, or at the other edge.
func (n *noise) tally() api.Tally {
	t := api.Tally{Index: uint32(n.below(tallies))}
	zeros := n.below(4)
	for i := range t.Counts {
		switch {
		case n.below(3) < zeros:
			t.Counts[i] = 0
		case n.below(4) == 0:
			t.Counts[i] = math.MaxUint16
		default:
			t.Counts[i] = uint16(n.next())
		}
	}
	return t
}

// pick is a valid one, of which some words may be zeros, or ones.
func (n *noise) pick() api.Pick {
	p := api.Pick{Index: uint32(n.below(picks))}
	for i := range p.Bits {
		switch n.below(4) {
		case 0:
		case 1:
			p.Bits[i] = math.MaxUint64
		default:
			p.Bits[i] = n.next()
		}
	}
	return p
}

// counted is a tally of that Index with these counts, given as pairs of a place and a count.
func counted(index uint32, pairs ...uint16) api.Tally {
	t := api.Tally{Index: index}
	for i := 0; i < len(pairs); i += 2 {
		t.Counts[pairs[i]] = pairs[i+1]
	}
	return t
}

// picked is a pick of that Index in which these bits are 1.
func picked(index uint32, bits ...int) api.Pick {
	p := api.Pick{Index: index}
	for _, i := range bits {
		p.Bits[i/64] += 1 << (i % 64)
	}
	return p
}

// full is a tally of that Index whose counts are all c.
func full(index uint32, c uint16) api.Tally {
	t := api.Tally{Index: index}
	for i := range t.Counts {
		t.Counts[i] = c
	}
	return t
}

// ones is a pick of that Index in which all bits are 1.
func ones(index uint32) api.Pick {
	p := api.Pick{Index: index}
	for i := range p.Bits {
		p.Bits[i] = math.MaxUint64
	}
	return p
}

// validTallies are at the edges that the chapter names.
func validTallies() []api.Tally {
	var l []api.Tally
	for _, index := range []uint32{0, 1, 2, 255, 256, 8192, 16382, 16383} {
		l = append(l, counted(index), full(index, 1), full(index, 65535), counted(index, 0, 65535), counted(index, 63, 65535), counted(index, 0, 300, 31, 7, 63, 0x1234))
	}
	return l
}

// validPicks are at the edges that the chapter names.
func validPicks() []api.Pick {
	var l []api.Pick
	for _, index := range []uint32{0, 1, 2, 8, 14, 15} {
		l = append(l, picked(index), ones(index), picked(index, 0), picked(index, 63), picked(index, 64), picked(index, 1023), picked(index, 0, 9, 18, 27, 36, 45, 54, 63, 70, 1000))
	}
	return l
}

// lay writes n into the bytes, the lowest one first.
func lay(bytes []byte, n uint64) {
	for i := range bytes {
		bytes[i] = byte(n % 256)
		n /= 256
	}
}

// laid is the block of any tally, byte by byte, as the chapter says it (also of one that is not valid).
func laid(t api.Tally) (b api.Block) {
	b[0] = 0x54
	lay(b[1:5], uint64(t.Index))
	for i, c := range t.Counts {
		lay(b[5+2*i:7+2*i], uint64(c))
	}
	return crc.Seal(b)
}

// laidPick is the block of any pick, byte by byte.
func laidPick(p api.Pick) (b api.Block) {
	b[0] = 0x50
	lay(b[1:5], uint64(p.Index))
	for i, w := range p.Bits {
		lay(b[5+8*i:13+8*i], w)
	}
	return crc.Seal(b)
}

// isPage tells by the bytes alone whether a sealed block is that of a page with that magic and Index.
func isPage(b api.Block, magic byte, index uint32) bool {
	if b[0] != magic || uint32(b[1])+uint32(b[2])<<8+uint32(b[3])<<16+uint32(b[4])<<24 != index {
		return false
	}
	for _, c := range b[behind:252] {
		if c != 0 {
			return false
		}
	}
	return true
}

// wantGet asks for an error of Get, without a tally (R3).
func wantGet(t *testing.T, what string, b api.Block, index uint32, want api.Errno) {
	t.Helper()
	if got, e := tally.Get(b, index); got != (api.Tally{}) || e != want {
		t.Errorf("%s: Get(.., %d) gives %v, %d, want no tally and %d", what, index, got, e, want)
	}
}

// wantGetPick asks for an error of GetPick, without a pick (R3).
func wantGetPick(t *testing.T, what string, b api.Block, index uint32, want api.Errno) {
	t.Helper()
	if got, e := tally.GetPick(b, index); got != (api.Pick{}) || e != want {
		t.Errorf("%s: GetPick(.., %d) gives %v, %d, want no pick and %d", what, index, got, e, want)
	}
}

// wantBoth asks that a valid tally and its block are each other's, and that asking again answers the same (R4).
func wantBoth(t *testing.T, x api.Tally) {
	t.Helper()
	want := laid(x)
	for range 2 {
		if b, e := tally.Put(x); b != want || e != api.OK {
			t.Errorf("Put(%v) gives %x, %d, want %x", x, b, e, want)
		}
		if got, e := tally.Get(want, x.Index); got != x || e != api.OK {
			t.Errorf("Get gives %v, %d, want %v", got, e, x)
		}
	}
}

// wantBothPick asks the same of a valid pick.
func wantBothPick(t *testing.T, x api.Pick) {
	t.Helper()
	want := laidPick(x)
	for range 2 {
		if b, e := tally.PutPick(x); b != want || e != api.OK {
			t.Errorf("PutPick(%v) gives %x, %d, want %x", x, b, e, want)
		}
		if got, e := tally.GetPick(want, x.Index); got != x || e != api.OK {
			t.Errorf("GetPick gives %v, %d, want %v", got, e, x)
		}
	}
}

// P5.1, P5.2: the blocks of pages are written as the chapter says, and read again.
func TestPutGet(t *testing.T) {
	b, e := tally.Put(counted(1, 0, 300))
	if want := "\x54\x01\x00\x00\x00\x2c\x01\x00"; string(b[:8]) != want || e != api.OK {
		t.Errorf("Put gives %x.., %d, want %x..", b[:8], e, want)
	}
	b, e = tally.Put(counted(0x3210, 63, 0xabcd))
	if string(b[:7]) != "\x54\x10\x32\x00\x00\x00\x00" || string(b[130:134]) != "\x00\xcd\xab\x00" || !crc.Good(b) || e != api.OK {
		t.Errorf("Put gives %x, %d", b, e)
	}
	b, e = tally.PutPick(picked(13, 0, 70, 1023))
	if string(b[:6]) != "\x50\x0d\x00\x00\x00\x01" || b[13] != 64 || string(b[131:134]) != "\x00\x80\x00" || !crc.Good(b) || e != api.OK {
		t.Errorf("PutPick gives %x, %d", b, e)
	}
	for _, x := range validTallies() {
		wantBoth(t, x)
	}
	for _, x := range validPicks() {
		wantBothPick(t, x)
	}
}

// P5.1, P5.2: each place of a page has its own bytes, and each Index its own pages.
func TestEachPlace(t *testing.T) {
	for i := range uint16(64) {
		for _, c := range []uint16{1, 255, 256, 0x1234, 65535} {
			wantBoth(t, counted(16383, i, c))
		}
	}
	for i := range 1024 {
		wantBothPick(t, picked(15, i))
	}
	for index := range uint32(tallies) {
		wantBoth(t, counted(index, 0, 1, 63, 2))
	}
	for index := range uint32(picks) {
		wantBothPick(t, picked(index, 0, 1023))
	}
}

// P5.1: a page with an Index that is out of range has no block.
func TestPutRefuses(t *testing.T) {
	for _, index := range []uint32{tallies, tallies + 1, 32768, 65536, 1 << 20, 1 << 31, math.MaxUint32} {
		for _, x := range []api.Tally{counted(index), full(index, 65535), counted(index, 0, 300)} {
			if b, e := tally.Put(x); b != (api.Block{}) || e != api.ErrArg {
				t.Errorf("Put(%v) gives %x.., %d, want no block and ErrArg", x, b[:8], e)
			}
		}
	}
	for _, index := range []uint32{picks, picks + 1, 256, tallies - 1, tallies, 65536, 1 << 31, math.MaxUint32} {
		for _, x := range []api.Pick{picked(index), ones(index), picked(index, 0)} {
			if b, e := tally.PutPick(x); b != (api.Block{}) || e != api.ErrArg {
				t.Errorf("PutPick(%v) gives %x.., %d, want no block and ErrArg", x, b[:8], e)
			}
		}
	}
}

// P5.2: an Index that is out of range comes first, whatever the block is.
func TestGetRange(t *testing.T) {
	for _, index := range []uint32{tallies, tallies + 1, tallies + 5, 65536, 1 << 31, math.MaxUint32} {
		for _, b := range []api.Block{{}, {1}, laid(counted(index, 0, 9)), laid(counted(index % tallies)), laidPick(picked(0)), crc.Seal(api.Block{})} {
			wantGet(t, "an Index out of range", b, index, api.ErrArg)
		}
	}
	for _, index := range []uint32{picks, picks + 1, picks + 5, 256, tallies - 1, tallies, 1 << 31, math.MaxUint32} {
		for _, b := range []api.Block{{}, {1}, laidPick(picked(index, 9)), laidPick(picked(index % picks)), laid(counted(0)), crc.Seal(api.Block{})} {
			wantGetPick(t, "an Index out of range", b, index, api.ErrArg)
		}
	}
}

// P5.2: a zero block is a page of zeros, of every Index.
func TestGetZeroBlock(t *testing.T) {
	for index := range uint32(tallies) {
		if got, e := tally.Get(api.Block{}, index); got != (api.Tally{Index: index}) || e != api.OK {
			t.Errorf("Get of zeros, of Index %d, gives %v, %d", index, got, e)
		}
	}
	for index := range uint32(picks) {
		if got, e := tally.GetPick(api.Block{}, index); got != (api.Pick{Index: index}) || e != api.OK {
			t.Errorf("GetPick of zeros, of Index %d, gives %v, %d", index, got, e)
		}
	}
	for _, index := range []uint32{0, 5, 15} {
		wantGet(t, "the zero block, sealed", crc.Seal(api.Block{}), index, api.ErrBad)
		wantGetPick(t, "the zero block, sealed", crc.Seal(api.Block{}), index, api.ErrBad)
		for i := range api.BlockBytes {
			var b api.Block
			b[i] = 1
			wantGet(t, "a block with one byte", b, index, api.ErrBad)
			wantGetPick(t, "a block with one byte", b, index, api.ErrBad)
		}
	}
}

// P5.2: pages of the other kind are refused, also those of the same Index and of zeros alone.
func TestGetOtherKind(t *testing.T) {
	for _, x := range validPicks() {
		wantGet(t, "a pick", laidPick(x), x.Index, api.ErrBad)
	}
	for _, x := range validTallies() {
		wantGetPick(t, "a tally", laid(x), x.Index%picks, api.ErrBad)
	}
}

// P5.2, P5.4: a page with another Index is refused.
func TestGetOtherIndex(t *testing.T) {
	for _, x := range []api.Tally{counted(0), counted(1, 0, 300), full(256, 65535), full(16383, 1)} {
		b, _ := tally.Put(x)
		for index := range uint32(tallies) {
			if index != x.Index {
				wantGet(t, "another Index", b, index, api.ErrBad)
			}
		}
	}
	for _, x := range validPicks() {
		b, _ := tally.PutPick(x)
		for index := range uint32(picks) {
			if index != x.Index {
				wantGetPick(t, "another Index", b, index, api.ErrBad)
			}
		}
	}
	// Indices that are equal only in their lower bytes, or bits.
	for _, index := range []uint32{tallies, 65536, 1 << 24, 1 << 31} {
		for low := range uint32(picks) {
			wantGet(t, "an Index out of range in the block", laid(counted(index+low, 0, 9)), low, api.ErrBad)
			wantGetPick(t, "an Index out of range in the block", laidPick(picked(index+low, 9)), low, api.ErrBad)
		}
	}
}

// P5.2: a page of which a bit is turned is not sealed any more; one that is sealed again counts as what it then says.
func TestGetTurned(t *testing.T) {
	for _, x := range []api.Tally{counted(0), full(1, 65535), counted(16383, 0, 300, 63, 1)} {
		eachTurned(laid(x), func(i int, c, sealed api.Block) {
			wantGet(t, "a turned bit", c, x.Index, api.ErrBad)
			got, e := tally.Get(sealed, x.Index)
			if isPage(sealed, 0x54, x.Index) {
				if e != api.OK || laid(got) != sealed {
					t.Errorf("byte %d of the block of %v, sealed again: Get gives %v, %d", i, x, got, e)
				}
			} else if got != (api.Tally{}) || e != api.ErrBad {
				t.Errorf("byte %d of the block of %v, sealed again: Get gives %v, %d, want ErrBad", i, x, got, e)
			}
		})
	}
	for _, x := range []api.Pick{picked(0), ones(1), picked(15, 0, 70, 1023)} {
		eachTurned(laidPick(x), func(i int, c, sealed api.Block) {
			wantGetPick(t, "a turned bit", c, x.Index, api.ErrBad)
			got, e := tally.GetPick(sealed, x.Index)
			if isPage(sealed, 0x50, x.Index) {
				if e != api.OK || laidPick(got) != sealed {
					t.Errorf("byte %d of the block of %v, sealed again: GetPick gives %v, %d", i, x, got, e)
				}
			} else if got != (api.Pick{}) || e != api.ErrBad {
				t.Errorf("byte %d of the block of %v, sealed again: GetPick gives %v, %d, want ErrBad", i, x, got, e)
			}
		})
	}
}

// eachTurned passes b with each of its bits turned, and that block sealed again.
func eachTurned(b api.Block, look func(i int, c, sealed api.Block)) {
	for i := range b {
		for bit := range 8 {
			c := b
			c[i] ^= 1 << bit
			look(i, c, crc.Seal(c))
		}
	}
}

// P5.2: a block with another magic is refused, sealed or not.
func TestGetMagic(t *testing.T) {
	for magic := range 256 {
		if magic != 0x54 {
			b := laid(counted(3, 0, 300))
			b[0] = byte(magic)
			wantGet(t, "another magic", b, 3, api.ErrBad)
			wantGet(t, "another magic, sealed", crc.Seal(b), 3, api.ErrBad)
		}
		if magic != 0x50 {
			b := laidPick(picked(3, 70))
			b[0] = byte(magic)
			wantGetPick(t, "another magic", b, 3, api.ErrBad)
			wantGetPick(t, "another magic, sealed", crc.Seal(b), 3, api.ErrBad)
		}
	}
}

// written is a block with that magic: the Index 3 in a number of indexWidth bytes, then so many numbers n of width bytes.
func written(t *testing.T, magic byte, indexWidth, numbers, width int, n uint64) api.Block {
	t.Helper()
	w := field.New()
	w.Num(3, indexWidth)
	for range numbers {
		w.Num(n, width)
	}
	b, e := w.Done(magic)
	if e != api.OK {
		t.Fatalf("%d numbers of %d bytes are not written: %d", numbers, width, e)
	}
	return b
}

// P5.2: fields that end too late, or have other widths, are refused.
func TestGetLate(t *testing.T) {
	const all = math.MaxUint64
	for _, index := range []uint32{0, 3} {
		wantGet(t, "65 counts", written(t, 0x54, 4, 65, 2, 9), index, api.ErrBad)
		wantGet(t, "123 counts", written(t, 0x54, 4, 123, 2, all), index, api.ErrBad)
		wantGet(t, "counts of four bytes", written(t, 0x54, 4, 60, 4, 9), index, api.ErrBad)
		wantGet(t, "an Index of eight bytes", written(t, 0x54, 8, 64, 2, all), index, api.ErrBad)
		wantGet(t, "an Index of two bytes", written(t, 0x54, 2, 64, 2, all), index, api.ErrBad)
		wantGet(t, "an Index of one byte", written(t, 0x54, 1, 64, 2, all), index, api.ErrBad)
		wantGetPick(t, "17 words", written(t, 0x50, 4, 17, 8, 9), index, api.ErrBad)
		wantGetPick(t, "30 words", written(t, 0x50, 4, 30, 8, all), index, api.ErrBad)
		wantGetPick(t, "an Index of eight bytes", written(t, 0x50, 8, 16, 8, all), index, api.ErrBad)
		wantGetPick(t, "an Index of two bytes", written(t, 0x50, 2, 16, 8, all), index, api.ErrBad)
		wantGetPick(t, "an Index of one byte", written(t, 0x50, 1, 16, 8, all), index, api.ErrBad)
	}
	for i := behind; i < 252; i++ {
		for _, c := range []byte{1, 0x80} {
			b := laid(full(3, 65535))
			b[i] = c
			wantGet(t, "a byte behind the fields", crc.Seal(b), 3, api.ErrBad)
			b = laidPick(ones(3))
			b[i] = c
			wantGetPick(t, "a byte behind the fields", crc.Seal(b), 3, api.ErrBad)
		}
	}
}

// P5.2: fields that end too early make a block that the zeros behind them complete: that of the page in which these numbers are 0.
// Without an Index, or with another width of it, it is the page of another Index.
func TestGetEarly(t *testing.T) {
	for counts := range 65 {
		want := api.Tally{Index: 3}
		for i := range counts {
			want.Counts[i] = 9
		}
		if got, e := tally.Get(written(t, 0x54, 4, counts, 2, 9), 3); got != want || e != api.OK {
			t.Errorf("a block of %d counts: Get gives %v, %d", counts, got, e)
		}
		if counts > 0 {
			wantGet(t, "an early count", written(t, 0x54, 2, counts, 2, 9), 3, api.ErrBad)
		}
	}
	for words := range 17 {
		want := api.Pick{Index: 3}
		for i := range words {
			want.Bits[i] = 9
		}
		if got, e := tally.GetPick(written(t, 0x50, 4, words, 8, 9), 3); got != want || e != api.OK {
			t.Errorf("a block of %d words: GetPick gives %v, %d", words, got, e)
		}
		if words > 0 {
			wantGetPick(t, "an early word", written(t, 0x50, 2, words, 8, 9), 3, api.ErrBad)
		}
	}
	for _, magic := range []byte{0x54, 0x50} {
		b := crc.Seal(api.Block{magic})
		wantGet(t, "nothing but a magic", b, 3, api.ErrBad)
		wantGetPick(t, "nothing but a magic", b, 3, api.ErrBad)
	}
}

// P5.2: blocks of noise are refused.
func TestGetNoise(t *testing.T) {
	n := noise(1)
	for range 200 {
		var b api.Block
		for i := range b {
			b[i] = byte(n.next())
		}
		for _, index := range []uint32{0, 15, uint32(n.below(picks))} {
			wantGet(t, "noise", b, index, api.ErrBad)
			wantGet(t, "noise, sealed", crc.Seal(b), index, api.ErrBad)
			wantGetPick(t, "noise", b, index, api.ErrBad)
			wantGetPick(t, "noise, sealed", crc.Seal(b), index, api.ErrBad)
		}
	}
}

// wantBit asks for bit i of p.
func wantBit(t *testing.T, p api.Pick, i, want int) {
	t.Helper()
	if got, e := tally.Bit(p, i); got != want || e != api.OK {
		t.Errorf("Bit(%x, %d) gives %d, %d, want %d", p, i, got, e, want)
	}
}

// anyIndices are those of picks, valid or not: they do not matter for Bit and Turn.
func anyIndices() []uint32 { return []uint32{0, 15, 16, 16384, math.MaxUint32} }

// P5.3: each bit is at its own place, of each pick.
func TestBit(t *testing.T) {
	for _, index := range anyIndices() {
		for i := range 1024 {
			p := picked(index, i)
			for k := range 1024 {
				want := 0
				if k == i {
					want = 1
				}
				wantBit(t, p, k, want)
			}
		}
		for _, i := range []int{0, 63, 64, 70, 1023} {
			wantBit(t, picked(index), i, 0)
			wantBit(t, ones(index), i, 1)
		}
	}
}

// P5.3: Turn inverts that bit, and nothing else, also not the pick that it was passed (R5).
func TestTurn(t *testing.T) {
	for _, index := range anyIndices() {
		for i := range 1024 {
			zeros, all := picked(index), ones(index)
			if got, e := tally.Turn(zeros, i); got != picked(index, i) || e != api.OK {
				t.Errorf("Turn of zeros at %d gives %x, %d", i, got, e)
			}
			want := ones(index)
			want.Bits[i/64] -= 1 << (i % 64)
			if got, e := tally.Turn(all, i); got != want || e != api.OK {
				t.Errorf("Turn of ones at %d gives %x, %d", i, got, e)
			}
			if zeros != picked(index) || all != ones(index) {
				t.Errorf("Turn at %d changed its argument", i)
			}
		}
	}
}

// P5.3: numbers of bits that do not exist.
func TestBitRefuses(t *testing.T) {
	for _, i := range []int{-1, -2, -63, -64, -65, -1023, -1024, math.MinInt32, math.MinInt64, 1024, 1025, 1087, 1088, 2048, math.MaxInt32, math.MaxInt64} {
		for _, index := range anyIndices() {
			for _, p := range []api.Pick{picked(index), ones(index), picked(index, 0, 63, 64, 1023)} {
				if got, e := tally.Bit(p, i); got != 0 || e != api.ErrArg {
					t.Errorf("Bit(.., %d) gives %d, %d, want 0 and ErrArg", i, got, e)
				}
				if got, e := tally.Turn(p, i); got != (api.Pick{}) || e != api.ErrArg {
					t.Errorf("Turn(.., %d) gives %x, %d, want no pick and ErrArg", i, got, e)
				}
			}
		}
	}
}

// P5.3: the counts that are 0, of any tally, also of one that is not valid.
func TestZeros(t *testing.T) {
	for _, index := range []uint32{0, 16383, 16384, math.MaxUint32} {
		for _, c := range []struct {
			x    api.Tally
			want int
		}{
			{counted(index), 64},
			{counted(index, 0, 1), 63},
			{counted(index, 63, 1), 63},
			{counted(index, 0, 65535, 63, 256), 62},
			{full(index, 1), 0},
			{full(index, 256), 0},
			{full(index, 65535), 0},
		} {
			if got := tally.Zeros(c.x); got != c.want {
				t.Errorf("Zeros(%v) gives %d, want %d", c.x, got, c.want)
			}
		}
		x := full(index, 7)
		for i := range x.Counts {
			x.Counts[i] = 0
			if got := tally.Zeros(x); got != i+1 {
				t.Errorf("Zeros gives %d, want %d", got, i+1)
			}
		}
	}
}

// P5.4: a page and its block determine each other; a zero block is written as a block that says the same.
func TestBackAndForth(t *testing.T) {
	n := noise(2)
	for range 1000 {
		wantBoth(t, n.tally())
		wantBothPick(t, n.pick())
	}
	for index := range uint32(tallies) {
		x, _ := tally.Get(api.Block{}, index)
		if b, e := tally.Put(x); b != laid(counted(index)) || e != api.OK {
			t.Errorf("zeros of Index %d come back as %x, %d", index, b, e)
		}
	}
	for index := range uint32(picks) {
		p, _ := tally.GetPick(api.Block{}, index)
		if b, e := tally.PutPick(p); b != laidPick(picked(index)) || e != api.OK {
			t.Errorf("zeros of Index %d come back as %x, %d", index, b, e)
		}
	}
}

// P5.4: inverting a bit twice has no effect; inverting it once changes what Bit says of it.
func TestTurnTwice(t *testing.T) {
	n := noise(3)
	for range 1000 {
		p := n.pick()
		p.Index = uint32(n.next())
		i := n.below(1024)
		before, _ := tally.Bit(p, i)
		once, e := tally.Turn(p, i)
		wantBit(t, once, i, 1-before)
		twice, f := tally.Turn(once, i)
		if twice != p || e != api.OK || f != api.OK {
			t.Fatalf("%x, inverted twice at %d, is %x (%d, %d)", p, i, twice, e, f)
		}
	}
}
