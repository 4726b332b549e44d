package crc_test

import (
	"strings"
	"testing"

	"pantile/api"
	"pantile/crc"
)

// slow is the checksum bit by bit, as the chapter defines it.
func slow(s string) uint32 {
	r := uint32(0xffffffff)
	for i := 0; i < len(s); i++ {
		for bit := 7; bit >= 0; bit-- {
			differ := r>>31 != uint32(s[i]>>bit&1)
			r <<= 1
			if differ {
				r ^= 0x04c11db7
			}
		}
	}
	return ^r
}

// noise is a source of numbers that are the same in each run.
type noise uint64

func (n *noise) next() uint64 {
	*n = *n*6364136223846793005 + 1442695040888963407
	return uint64(*n) ^ uint64(*n)>>33
}

func (n *noise) text(length int) string {
	b := make([]byte, length)
	for i := range b {
		b[i] = byte(n.next())
	}
	return string(b)
}

func (n *noise) block() api.Block {
	var b api.Block
	copy(b[:], n.text(len(b)))
	return b
}

// blocks are ordinary ones, and those at the edges.
func blocks() []api.Block {
	n := noise(1)
	var ones, first, last, inSum api.Block
	for i := range ones {
		ones[i] = 255
	}
	first[0] = 128
	last[251] = 1
	inSum[255] = 1
	return []api.Block{{}, ones, first, last, inSum, n.block(), n.block(), n.block()}
}

// flip inverts the bits of the burst that lie in the block: its highest bit is the block's bit at, the highest bit of byte 0 first.
func flip(b api.Block, at int, burst uint32) api.Block {
	for i := 0; i < 32 && at+i < 8*len(b); i++ {
		if burst>>(31-i)&1 == 1 {
			b[(at+i)/8] ^= 128 >> ((at + i) % 8)
		}
	}
	return b
}

// P1.1: the answers that are known.
func TestSumExamples(t *testing.T) {
	for _, x := range []struct {
		s    string
		want uint32
	}{
		{"", 0},
		{"123456789", 0xfc891918},
		{"\x00", 0xb1f7404b},
		{"\x00\x00\x00\x00", 0x38fb2284},
		{"\xff\xff\xff\xff", 0xffffffff},
	} {
		if got := crc.Sum(x.s); got != x.want {
			t.Errorf("Sum(%q) = %08x, want %08x", x.s, got, x.want)
		}
	}
}

// P1.1: each byte alone, each single bit of some bytes, and all lengths around that of a block.
func TestSumIsTheChecksumBitByBit(t *testing.T) {
	check := func(s string) {
		t.Helper()
		if got, want := crc.Sum(s), slow(s); got != want {
			t.Errorf("Sum of %d bytes %.20q = %08x, want %08x", len(s), s, got, want)
		}
	}
	for c := range 256 {
		check(string([]byte{byte(c)}))
		check(string([]byte{0, byte(c)}))
		check(string([]byte{byte(c), 255}))
	}
	for bit := range 64 {
		var b [8]byte
		b[bit/8] = 1 << (bit % 8)
		check(string(b[:]))
	}
	n := noise(2)
	for length := range 300 {
		check(n.text(length))
		check(strings.Repeat("\x00", length))
		check(strings.Repeat("\xff", length))
	}
}

// P1.1: strings that are no text, and a long one.
func TestSumOfAnyString(t *testing.T) {
	n := noise(3)
	for _, s := range []string{"\xff\xfe\x80", "\x00a\x00", "é\u2028\U0010ffff", n.text(1 << 20)} {
		if got, want := crc.Sum(s), slow(s); got != want {
			t.Errorf("Sum of %d bytes = %08x, want %08x", len(s), got, want)
		}
	}
}

// P1.2: only the last four bytes are replaced, by the checksum of the others, whatever they were.
func TestSeal(t *testing.T) {
	for i, b := range blocks() {
		got := crc.Seal(b)
		w := slow(string(b[:252]))
		want := b
		want[252], want[253], want[254], want[255] = byte(w>>24), byte(w>>16), byte(w>>8), byte(w)
		if got != want {
			t.Errorf("block %d: Seal gives %x, want %x", i, got, want)
		}
		if crc.Seal(got) != got {
			t.Errorf("block %d: a second Seal changes it", i)
		}
		if !crc.Good(got) {
			t.Errorf("block %d: not Good when sealed", i)
		}
	}
}

// P1.2: the four bytes as they were (of zeros, for one), in the wrong order, not inverted, or of the whole block, do not seal it.
func TestGoodRefusesWhatIsNotSealed(t *testing.T) {
	for i, b := range blocks() {
		x := crc.Seal(b)
		if b != x && crc.Good(b) {
			t.Errorf("block %d: Good without its checksum", i)
		}
		turned, inverted, whole := x, x, x
		turned[252], turned[253], turned[254], turned[255] = x[255], x[254], x[253], x[252]
		for k := 252; k < 256; k++ {
			inverted[k] = ^x[k]
		}
		w := slow(string(x[:]))
		whole[252], whole[253], whole[254], whole[255] = byte(w>>24), byte(w>>16), byte(w>>8), byte(w)
		for k, y := range []api.Block{turned, inverted, whole} {
			if y != x && crc.Good(y) {
				t.Errorf("block %d: Good with wrong bytes of kind %d", i, k)
			}
		}
	}
}

// P1.2: a block with a single bit anywhere is not a zero block.
func TestZero(t *testing.T) {
	if !crc.Zero(api.Block{}) {
		t.Error("256 bytes 0 are not Zero")
	}
	for at := range 2048 {
		if crc.Zero(flip(api.Block{}, at, 1<<31)) {
			t.Errorf("Zero with bit %d", at)
		}
	}
	if crc.Zero(crc.Seal(api.Block{})) {
		t.Error("Zero when sealed")
	}
}

// P1.3: a zero block is not sealed, though zeros can be sealed.
func TestZeroBlockIsNotSealed(t *testing.T) {
	if crc.Good(api.Block{}) {
		t.Error("a zero block is Good")
	}
	if !crc.Good(crc.Seal(api.Block{})) {
		t.Error("sealed zeros are not Good")
	}
}

// P1.3: bursts from each bit of the block on, so across bytes, across the checksum's begin, and cut off at the block's end.
func TestBursts(t *testing.T) {
	n := noise(4)
	for i, b := range blocks() {
		x := crc.Seal(b)
		for at := range 2048 {
			// The highest bit is set, so that no burst is empty where the block ends.
			bursts := []uint32{1 << 31, 1<<31 | 1, 1<<32 - 1, 0x82608edb, 1<<31 | uint32(n.next()), 1<<31 | uint32(n.next())}
			for _, burst := range bursts {
				if crc.Good(flip(x, at, burst)) {
					t.Errorf("block %d: Good after the burst %08x at bit %d", i, burst, at)
				}
			}
		}
	}
}

// P1.3: every two bits that are at most 32 bits apart, and all bits between them.
func TestBurstsOfEachLength(t *testing.T) {
	n := noise(5)
	x := crc.Seal(n.block())
	for at := range 2048 {
		for length := 1; length <= 32 && at+length <= 2048; length++ {
			last := uint32(1) << (32 - length)
			ends, full := 1<<31|last, -last
			if crc.Good(flip(x, at, ends)) || crc.Good(flip(x, at, full)) {
				t.Errorf("Good after a burst of %d bits at bit %d", length, at)
			}
		}
	}
}

// P1.4: of three strings of one length, also of length 0.
func TestSumOfExclusiveOr(t *testing.T) {
	n := noise(6)
	for length := range 300 {
		a, b, c := n.text(length), n.text(length), n.text(length)
		if length%3 == 0 {
			c = a
		}
		x := make([]byte, length)
		for i := range x {
			x[i] = a[i] ^ b[i] ^ c[i]
		}
		if got, want := crc.Sum(string(x)), crc.Sum(a)^crc.Sum(b)^crc.Sum(c); got != want {
			t.Errorf("length %d: %08x, want %08x", length, got, want)
		}
	}
}

// R4: the same answer a second time.
func TestSameAnswerAgain(t *testing.T) {
	n := noise(7)
	s, b := n.text(1000), n.block()
	w, x := crc.Sum(s), crc.Seal(b)
	crc.Sum("something else")
	crc.Good(api.Block{})
	if crc.Sum(s) != w || crc.Seal(b) != x {
		t.Error("another answer")
	}
}
