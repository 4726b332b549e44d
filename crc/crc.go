// Package crc is layer 1: checksums of bytes, and blocks that are sealed with them (chapter doc/01-crc.md).
package crc

import "pantile/api"

const (
	poly  = 0x04c11db7
	start = 0xffffffff

	width = 4 // bytes of a checksum
	body  = api.BlockBytes - width
)

// Sum returns the checksum of s.
func Sum(s string) uint32 { return sum(s) }

// Seal returns b with its last four bytes replaced by the checksum of the others.
func Seal(b api.Block) api.Block {
	w := sum(b[:body])
	for i := range width {
		b[body+i] = byte(w >> (8 * (width - 1 - i)))
	}
	return b
}

// Good reports whether b is sealed.
func Good(b api.Block) bool { return Seal(b) == b }

// Zero reports whether b is a zero block.
func Zero(b api.Block) bool { return b == api.Block{} }

// sum is generic so that the bytes of a block need not be copied into a string.
func sum[T string | []byte](s T) uint32 {
	t := table()
	w := uint32(start)
	for i := range len(s) {
		w = w<<4 ^ t[w>>28^uint32(s[i]>>4)]
		w = w<<4 ^ t[w>>28^uint32(s[i]&15)]
	}
	return ^w
}

// table gives what four shifts make of a register with only the index in its highest four bits.
// The shifts are linear, so what lies below those bits can be added afterwards.
func table() [16]uint32 {
	var t [16]uint32
	for i := range len(t) {
		w := uint32(i) << 28
		for range 4 {
			w = shift(w)
		}
		t[i] = w
	}
	return t
}

func shift(w uint32) uint32 {
	if w>>31 == 1 {
		return w<<1 ^ poly
	}
	return w << 1
}
