package node_test

import (
	"math"
	"slices"
	"testing"

	"pantile/api"
	"pantile/crc"
	"pantile/field"
	"pantile/node"
)

const (
	highest = 1<<20 - 1 // the greatest pointer of a valid node
	behind  = 130       // the first byte behind the fields
)

// noise is a source of numbers that are the same in each run.
type noise uint64

func (n *noise) next() uint64 {
	*n = *n*6364136223846793005 + 1442695040888963407
	return uint64(*n) ^ uint64(*n)>>33
}

func (n *noise) below(end int) int { return int(n.next() % uint64(end)) }

// node is a valid one, of which often some pointers are 0, or at an edge.
func (n *noise) node() api.Node {
	x := api.Node{Level: uint8(1 + n.below(3))}
	zeros := n.below(4)
	for i := range x.Ptr {
		switch {
		case n.below(3) < zeros:
			x.Ptr[i] = 0
		case n.below(4) == 0:
			x.Ptr[i] = highest
		default:
			x.Ptr[i] = uint32(n.below(1 << 20))
		}
	}
	return x
}

// with is a node of that level with these pointers, given as pairs of a place and a pointer.
func with(level uint8, pairs ...uint32) api.Node {
	n := api.Node{Level: level}
	for i := 0; i < len(pairs); i += 2 {
		n.Ptr[pairs[i]] = pairs[i+1]
	}
	return n
}

// all is a node of that level whose pointers are all p.
func all(level uint8, p uint32) api.Node {
	n := api.Node{Level: level}
	for i := range n.Ptr {
		n.Ptr[i] = p
	}
	return n
}

// valids are valid nodes at all edges that the chapter names.
func valids() []api.Node {
	var l []api.Node
	for level := uint8(1); level <= 3; level++ {
		l = append(l, with(level), all(level, 1), all(level, highest), with(level, 0, highest), with(level, 31, highest), with(level, 1, 9), with(level, 0, 1, 31, 2))
	}
	return l
}

// laid is the block of any node, byte by byte, as the chapter says it (also of one that is not valid).
func laid(n api.Node) (b api.Block) {
	b[0], b[1] = 0x4e, n.Level
	for i, p := range n.Ptr {
		for k := range 4 {
			b[2+4*i+k] = byte(p % 256)
			p /= 256
		}
	}
	return crc.Seal(b)
}

// isNode tells by the bytes alone whether a sealed block is that of a valid node.
func isNode(b api.Block) bool {
	if b[0] != 0x4e || b[1] == 0 || b[1] > 3 {
		return false
	}
	for at := 2; at < behind; at += 4 {
		if b[at+2] > 0x0f || b[at+3] != 0 {
			return false
		}
	}
	for _, c := range b[behind:252] {
		if c != 0 {
			return false
		}
	}
	return true
}

// wantBad asks that Get refuses b, and returns no node then (R3).
func wantBad(t *testing.T, what string, b api.Block) {
	t.Helper()
	if n, e := node.Get(b); n != (api.Node{}) || e != api.ErrBad {
		t.Errorf("%s: Get gives %v, %d, want no node and ErrBad", what, n, e)
	}
}

// wantArg asks that Put refuses n, and returns no block then (R3).
func wantArg(t *testing.T, what string, n api.Node) {
	t.Helper()
	if b, e := node.Put(n); b != (api.Block{}) || e != api.ErrArg {
		t.Errorf("%s: Put gives %x.., %d, want no block and ErrArg", what, b[:8], e)
	}
}

// wantBoth asks that a valid node and its block are each other's, and that asking again answers the same (R4).
func wantBoth(t *testing.T, n api.Node) {
	t.Helper()
	want := laid(n)
	for range 2 {
		if b, e := node.Put(n); b != want || e != api.OK {
			t.Errorf("Put(%v) gives %x, %d, want %x", n, b, e, want)
		}
		if got, e := node.Get(want); got != n || e != api.OK {
			t.Errorf("Get gives %v, %d, want %v", got, e, n)
		}
	}
}

// P4.1: the block of a node is written as the chapter says, and read again.
func TestPutGet(t *testing.T) {
	b, e := node.Put(with(2, 1, 9))
	if want := "\x4e\x02\x00\x00\x00\x00\x09\x00\x00\x00"; string(b[:10]) != want || e != api.OK {
		t.Errorf("Put gives %x.., %d, want %x..", b[:10], e, want)
	}
	b, e = node.Put(with(3, 0, 0x54321, 31, 0xabcde))
	if b[1] != 3 || string(b[2:6]) != "\x21\x43\x05\x00" || string(b[126:131]) != "\xde\xbc\x0a\x00\x00" || !crc.Good(b) || e != api.OK {
		t.Errorf("Put gives %x, %d", b, e)
	}
	for _, n := range valids() {
		wantBoth(t, n)
	}
}

// P4.1: each place of a node has its own four bytes.
func TestEachPlace(t *testing.T) {
	for level := uint8(1); level <= 3; level++ {
		for i := range uint32(32) {
			wantBoth(t, with(level, i, 1))
			wantBoth(t, with(level, i, 0x12345))
			wantBoth(t, with(level, i, highest))
		}
	}
}

// P4.1: a node that is not valid has no block.
func TestPutRefuses(t *testing.T) {
	for level := range 256 {
		if level < 1 || level > 3 {
			wantArg(t, "a wrong level", with(uint8(level)))
			wantArg(t, "a wrong level", with(uint8(level), 1, 9))
			wantArg(t, "a wrong level and pointer", with(uint8(level), 0, 1<<20))
		}
	}
	for level := uint8(1); level <= 3; level++ {
		for i := range uint32(32) {
			for _, p := range []uint32{1 << 20, 1<<20 + 1, 1 << 24, 1 << 31, math.MaxUint32} {
				wantArg(t, "a wrong pointer", with(level, i, p))
			}
		}
		wantArg(t, "wrong pointers", all(level, 1<<20))
	}
}

// P4.1: a sealed block that holds a level or a pointer that no valid node has is refused.
func TestGetRefusesFields(t *testing.T) {
	for level := range 256 {
		if level < 1 || level > 3 {
			wantBad(t, "a wrong level", laid(with(uint8(level))))
			wantBad(t, "a wrong level", laid(with(uint8(level), 31, 9)))
		}
	}
	for level := uint8(1); level <= 3; level++ {
		for i := range uint32(32) {
			for _, p := range []uint32{1 << 20, 1<<20 + 1, 1 << 24, 1 << 31, math.MaxUint32} {
				wantBad(t, "a wrong pointer", laid(with(level, i, p)))
			}
		}
	}
}

// P4.1: a block of which a bit is turned is not sealed any more, and a byte that is turned in a block that is sealed again counts as what it then says.
func TestGetTurned(t *testing.T) {
	for _, n := range append(valids(), with(2, 0, 0x54321, 7, 1, 31, 0xabcde)) {
		b := laid(n)
		for i := range b {
			for bit := range 8 {
				c := b
				c[i] ^= 1 << bit
				wantBad(t, "a turned bit", c)
				c = crc.Seal(c)
				got, e := node.Get(c)
				if isNode(c) {
					if e != api.OK || laid(got) != c {
						t.Errorf("byte %d, bit %d, of the block of %v, sealed again: Get gives %v, %d", i, bit, n, got, e)
					}
				} else if got != (api.Node{}) || e != api.ErrBad {
					t.Errorf("byte %d, bit %d, of the block of %v, sealed again: Get gives %v, %d, want ErrBad", i, bit, n, got, e)
				}
			}
		}
	}
}

// P4.1: a block with another magic is refused.
func TestGetMagic(t *testing.T) {
	b := laid(with(2, 1, 9))
	for magic := range 256 {
		if magic != 0x4e {
			c := b
			c[0] = byte(magic)
			wantBad(t, "another magic", c)
			wantBad(t, "another magic, sealed", crc.Seal(c))
		}
	}
}

// written is a block with the magic of nodes: the level 2 in a number of that width, then so many pointers p of another width.
func written(t *testing.T, levelWidth, pointers, pointerWidth int, p uint64) api.Block {
	t.Helper()
	w := field.New()
	w.Num(2, levelWidth)
	for range pointers {
		w.Num(p, pointerWidth)
	}
	b, e := w.Done(0x4e)
	if e != api.OK {
		t.Fatalf("%d pointers of %d bytes are not written: %d", pointers, pointerWidth, e)
	}
	return b
}

// P4.1: fields that end too late, or have other widths, are refused. Fields that end too early make a block that the zeros behind them
// complete: it is the block of a node without these pointers.
func TestGetLengths(t *testing.T) {
	wantBad(t, "33 pointers", written(t, 1, 33, 4, 9))
	wantBad(t, "62 pointers", written(t, 1, 62, 4, highest))
	wantBad(t, "a level of two bytes", written(t, 2, 32, 4, highest))
	wantBad(t, "a level of four bytes", written(t, 4, 32, 4, highest))
	wantBad(t, "a level of eight bytes", written(t, 8, 32, 4, 9))
	wantBad(t, "pointers of eight bytes", written(t, 1, 31, 8, 9))
	wantBad(t, "pointers of two bytes", written(t, 1, 32, 2, 0xffff))
	wantBad(t, "pointers of one byte", written(t, 1, 32, 1, 9))
	for i := behind; i < 252; i++ {
		for _, c := range []byte{1, 0x80} {
			b := laid(all(1, highest))
			b[i] = c
			wantBad(t, "a byte behind the fields", crc.Seal(b))
		}
	}
	for pointers := range 33 {
		want := api.Node{Level: 2}
		for i := range pointers {
			want.Ptr[i] = 9
		}
		if got, e := node.Get(written(t, 1, pointers, 4, 9)); got != want || e != api.OK {
			t.Errorf("a block of %d pointers: Get gives %v, %d", pointers, got, e)
		}
	}
}

// P4.1: zero blocks, sealed or not, and blocks of noise are refused.
func TestGetOther(t *testing.T) {
	wantBad(t, "the zero block", api.Block{})
	wantBad(t, "the zero block, sealed", crc.Seal(api.Block{}))
	wantBad(t, "a block that has nothing but the magic", crc.Seal(api.Block{0x4e}))
	wantBad(t, "a block that is not sealed", api.Block{0x4e, 1})
	n := noise(1)
	for range 200 {
		var b api.Block
		for i := range b {
			b[i] = byte(n.next())
		}
		wantBad(t, "noise", b)
		wantBad(t, "noise, sealed", crc.Seal(b))
	}
}

// P4.2: the pointers that are not 0, in order, of any node, also of one that is not valid.
func TestKids(t *testing.T) {
	var rising api.Node
	var one []uint32
	for i := range rising.Ptr {
		rising.Ptr[i] = uint32(i + 1)
		one = append(one, uint32(i+1))
	}
	for _, c := range []struct {
		n    api.Node
		want []uint32
	}{
		{with(1), nil},
		{with(2, 1, 9), []uint32{9}},
		{with(2, 0, 9), []uint32{9}},
		{with(2, 31, 9), []uint32{9}},
		{with(3, 0, 5, 31, 4), []uint32{5, 4}},
		{with(1, 4, 7, 5, 7, 9, 7), []uint32{7, 7, 7}},
		{rising, one},
		{all(3, highest), slices.Repeat([]uint32{highest}, 32)},
		{with(0, 3, 1<<20, 8, math.MaxUint32), []uint32{1 << 20, math.MaxUint32}},
		{with(4, 3, 1, 2, 2), []uint32{2, 1}},
		{with(255), nil},
	} {
		if got := node.Kids(c.n); !slices.Equal(got, c.want) {
			t.Errorf("Kids(%v) gives %v, want %v", c.n, got, c.want)
		}
	}
}

// P4.2: each of any node's pointers is told, if it is not 0, as often as it is there.
func TestKidsOfAny(t *testing.T) {
	n := noise(2)
	for range 500 {
		x := n.node()
		got := node.Kids(x)
		for _, p := range x.Ptr {
			if p == 0 {
				continue
			}
			if len(got) == 0 || got[0] != p {
				t.Fatalf("Kids(%v) goes on with %v, want %d", x, got, p)
			}
			got = got[1:]
		}
		if len(got) != 0 {
			t.Fatalf("Kids(%v) has %v at its end", x, got)
		}
	}
}

// P4.2, R5: what is returned shares no memory with another answer, nor does its spare capacity.
func TestKidsNewMemory(t *testing.T) {
	n := with(1, 0, 1, 2, 2, 31, 3)
	first, second := node.Kids(n), node.Kids(n)
	first = first[:cap(first)]
	for i := range first {
		first[i] = 77
	}
	want := []uint32{1, 2, 3}
	if !slices.Equal(second, want) || slices.Contains(second[:cap(second)], 77) || !slices.Equal(node.Kids(n), want) {
		t.Errorf("an answer that was written changed another: %v", second[:cap(second)])
	}
}

// P4.3: the pages that the chapter names, and those of its examples, at each level.
func TestIndexEdges(t *testing.T) {
	for _, c := range []struct {
		page uint32
		want [3]int
	}{
		{0, [3]int{0, 0, 0}},
		{1, [3]int{1, 0, 0}},
		{31, [3]int{31, 0, 0}},
		{32, [3]int{0, 1, 0}},
		{1023, [3]int{31, 31, 0}},
		{1024, [3]int{0, 0, 1}},
		{1027, [3]int{3, 0, 1}},
		{32736, [3]int{0, 31, 31}},
		{32767, [3]int{31, 31, 31}},
	} {
		for i, want := range c.want {
			if got, e := node.Index(c.page, uint8(i+1)); got != want || e != api.OK {
				t.Errorf("Index(%d, %d) gives %d, %d, want %d", c.page, i+1, got, e, want)
			}
		}
	}
}

// P4.3: a page, or a level, that does not exist.
func TestIndexRefuses(t *testing.T) {
	refuse := func(page uint32, level uint8) {
		t.Helper()
		if i, e := node.Index(page, level); i != 0 || e != api.ErrArg {
			t.Errorf("Index(%d, %d) gives %d, %d, want 0 and ErrArg", page, level, i, e)
		}
	}
	for level := range 256 {
		for _, page := range []uint32{32768, 32769, 32771, 65535, 65536, 1 << 31, math.MaxUint32} {
			refuse(page, uint8(level))
		}
		if level < 1 || level > 3 {
			for _, page := range []uint32{0, 1, 31, 32, 1023, 1024, 1027, 32767} {
				refuse(page, uint8(level))
			}
		}
	}
}

// P4.4: a node and its block determine each other.
func TestBackAndForth(t *testing.T) {
	n := noise(3)
	for range 1000 {
		x := n.node()
		wantBoth(t, x)
		b, _ := node.Put(x)
		y, _ := node.Get(b)
		c, e := node.Put(y)
		if y != x || c != b || e != api.OK {
			t.Fatalf("%v comes back as %v, its block %x as %x", x, y, b, c)
		}
	}
}

// P4.4: the three indices of a page determine it.
func TestIndicesDetermine(t *testing.T) {
	seen := map[[3]int]uint32{}
	for page := range uint32(32768) {
		var path [3]int
		for i := range path {
			index, e := node.Index(page, uint8(i+1))
			if e != api.OK || index < 0 || index > 31 {
				t.Fatalf("Index(%d, %d) gives %d, %d", page, i+1, index, e)
			}
			path[i] = index
		}
		if other, there := seen[path]; there {
			t.Fatalf("the pages %d and %d have the same indices %v", other, page, path)
		}
		seen[path] = page
		if back := path[0] + 32*path[1] + 1024*path[2]; back != int(page) {
			t.Fatalf("the indices %v of page %d are those of %d", path, page, back)
		}
	}
}
