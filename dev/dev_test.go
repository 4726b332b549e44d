package dev_test

import (
	"math"
	"slices"
	"testing"

	"pantile/api"
	"pantile/dev"
)

// full is a block of one byte.
func full(c byte) (b api.Block) {
	for i := range b {
		b[i] = c
	}
	return b
}

// torn is a block whose sectors are of these four bytes.
func torn(s string) (b api.Block) {
	for i := range b {
		b[i] = s[i/64]
	}
	return b
}

// device is one of n blocks.
func device(t *testing.T, n uint32) *dev.Dev {
	t.Helper()
	d, e := dev.New(n)
	if d == nil || e != api.OK {
		t.Fatalf("New(%d) gives %v, %d", n, d, e)
	}
	return d
}

func want(t *testing.T, what string, got, want api.Errno) {
	t.Helper()
	if got != want {
		t.Errorf("%s: error %d, want %d", what, got, want)
	}
}

func wantRead(t *testing.T, what string, d *dev.Dev, a uint32, want api.Block) {
	t.Helper()
	if b, e := d.Read(a); b != want || e != api.OK {
		t.Errorf("%s: Read(%d) gives %x.., %d, want %x..", what, a, b[:4], e, want[:4])
	}
}

func wantNumbers(t *testing.T, what string, d *dev.Dev, pending int, writes uint64, down bool) {
	t.Helper()
	if d.Pending() != pending || d.Writes() != writes || d.Down() != down {
		t.Errorf("%s: %d pending, %d writes, down: %v, want %d, %d, %v", what, d.Pending(), d.Writes(), d.Down(), pending, writes, down)
	}
}

// keeps makes a list of pairs of an index and of sectors.
func keeps(l ...int) []api.Keep {
	var k []api.Keep
	for i := 0; i < len(l); i += 2 {
		k = append(k, api.Keep{At: uint16(l[i]), Sectors: uint8(l[i+1])})
	}
	return k
}

// noise is a source of numbers that are the same in each run.
type noise uint64

func (n *noise) next() uint64 {
	*n = *n*6364136223846793005 + 1442695040888963407
	return uint64(*n) ^ uint64(*n)>>33
}

func (n *noise) below(end int) int { return int(n.next() % uint64(end)) }

// block is often a zero block, or one with sectors of zeros.
func (n *noise) block() (b api.Block) {
	for i := range api.Sectors {
		if n.below(3) > 0 {
			for k := range api.SectorBytes {
				b[i*api.SectorBytes+k] = byte(n.next())
			}
		}
	}
	return b
}

// The chapter's examples.
func TestExamples(t *testing.T) {
	d := device(t, 64)
	want(t, "Write(5, A)", d.Write(5, full('a')), api.OK)
	wantRead(t, "pending", d, 5, full('a'))
	wantNumbers(t, "pending", d, 1, 1, false)
	want(t, "Flush", d.Flush(), api.OK)
	want(t, "Write(5, B)", d.Write(5, full('b')), api.OK)
	want(t, "Write(64, B)", d.Write(64, full('b')), api.ErrArg)
	want(t, "Crash", d.Crash(keeps(0, 9)), api.OK)
	wantRead(t, "torn", d, 5, torn("baab"))
	want(t, "Fuse(1)", d.Fuse(1), api.OK)
	want(t, "Write(6, A)", d.Write(6, full('a')), api.OK)
	want(t, "Flush", d.Flush(), api.ErrDown)
	wantNumbers(t, "down", d, 1, 4, true)
	want(t, "Write(6, B)", d.Write(6, full('b')), api.ErrDown)
	want(t, "Crash", d.Crash(keeps(0, 15)), api.OK)
	wantRead(t, "kept", d, 6, full('a'))
}

// P3.1, P3.3: New takes from 64 to 2^20 blocks; the last address, and those behind it.
func TestSizes(t *testing.T) {
	for _, n := range []uint32{64, 65, 100, 256, 1<<16 - 1, 1 << 16, 1<<20 - 1, 1 << 20} {
		d := device(t, n)
		if d.Size() != n {
			t.Errorf("Size of %d blocks is %d", n, d.Size())
		}
		wantNumbers(t, "new", d, 0, 0, false)
		for _, a := range []uint32{0, 1, n / 2, n - 2, n - 1} {
			wantRead(t, "new", d, a, api.Block{})
			want(t, "Write", d.Write(a, full(byte(a))), api.OK)
			wantRead(t, "written", d, a, full(byte(a)))
		}
		for _, a := range []uint32{n, n + 1, 2 * n, 1<<20 + 1, 1 << 31, math.MaxUint32} {
			if b, e := d.Read(a); b != (api.Block{}) || e != api.ErrArg {
				t.Errorf("%d blocks: Read(%d) gives %x.., %d", n, a, b[:4], e)
			}
			want(t, "Write behind the last address", d.Write(a, full(1)), api.ErrArg)
		}
		wantNumbers(t, "written", d, 5, 5, false)
	}
	for _, n := range []uint32{0, 1, 2, 62, 63, 1<<20 + 1, 1<<20 + 64, 1 << 21, 1 << 31, math.MaxUint32} {
		if d, e := dev.New(n); d != nil || e != api.ErrArg {
			t.Errorf("New(%d) gives %v, %d", n, d, e)
		}
	}
}

// P3.1: each address has a block of its own, before a flush and after it.
func TestAddresses(t *testing.T) {
	d := device(t, 300)
	block := func(a uint32) api.Block { return torn(string([]byte{byte(a), byte(a >> 8), 7, byte(a * 5)})) }
	for a := range uint32(300) {
		want(t, "Write", d.Write(a, block(a)), api.OK)
	}
	for range 2 {
		for a := range uint32(300) {
			wantRead(t, "each address", d, a, block(a))
		}
		want(t, "Flush", d.Flush(), api.OK)
	}
	wantNumbers(t, "flushed", d, 0, 302, false)
}

// P3.1, P3.3: of several writes of a block the last one is read, and the last one is durable; each of them is pending.
func TestBlockWrittenTwice(t *testing.T) {
	d := device(t, 64)
	for i, c := range []byte("abcde") {
		want(t, "Write", d.Write(9, full(c)), api.OK)
		want(t, "Write", d.Write(10, full('x')), api.OK)
		wantRead(t, "last one", d, 9, full(c))
		wantNumbers(t, "pending", d, 2*i+2, uint64(2*i+2), false)
	}
	want(t, "Flush", d.Flush(), api.OK)
	wantNumbers(t, "flushed", d, 0, 11, false)
	wantRead(t, "flushed", d, 9, full('e'))
	want(t, "Crash", d.Crash(nil), api.OK)
	wantRead(t, "after a crash", d, 9, full('e'))
	wantRead(t, "after a crash", d, 10, full('x'))
}

// P3.1: a flush of nothing is one, too.
func TestFlushOfNothing(t *testing.T) {
	d := device(t, 64)
	for i := range 3 {
		want(t, "Flush", d.Flush(), api.OK)
		wantNumbers(t, "flushed", d, 0, uint64(i+1), false)
	}
}

// P3.1, P3.2: a zero block is written like any other one: pending, flushed, torn, lost.
func TestZeroBlock(t *testing.T) {
	var zero api.Block
	d := device(t, 64)
	d.Write(3, full('a'))
	d.Flush()
	want(t, "Write", d.Write(3, zero), api.OK)
	wantNumbers(t, "pending", d, 1, 3, false)
	wantRead(t, "pending", d, 3, zero)
	d.Crash(nil)
	wantRead(t, "lost", d, 3, full('a'))
	d.Write(3, zero)
	d.Crash(keeps(0, 6))
	wantRead(t, "torn", d, 3, torn("a\x00\x00a"))
	d.Write(3, zero)
	d.Crash(keeps(0, 9))
	wantRead(t, "both halves", d, 3, zero)
	d.Write(3, full('b'))
	d.Crash(keeps(0, 1))
	wantRead(t, "over zeros", d, 3, torn("b\x00\x00\x00"))
	d.Write(3, zero)
	d.Flush()
	wantRead(t, "flushed", d, 3, zero)
	d.Write(3, full('c'))
	d.Write(3, zero)
	d.Write(4, zero)
	wantRead(t, "last one", d, 3, zero)
	d.Flush()
	wantRead(t, "last one, flushed", d, 3, zero)
	wantRead(t, "zeros on zeros", d, 4, zero)
}

// P3.2: each set of sectors; the higher four bits mean nothing.
func TestEachSetOfSectors(t *testing.T) {
	for sectors := range 256 {
		s := []byte("abcd")
		for i := range s {
			if sectors>>i&1 == 1 {
				s[i] -= 32
			}
		}
		d := device(t, 64)
		d.Write(7, torn("abcd"))
		d.Flush()
		d.Write(7, torn("ABCD"))
		want(t, "Crash", d.Crash(keeps(0, sectors)), api.OK)
		wantRead(t, "torn", d, 7, torn(string(s)))
		wantNumbers(t, "after a crash", d, 0, 3, false)
	}
}

// P3.2: the Keeps count in their order, each one on top of what the ones before it left.
func TestOrderOfKeeps(t *testing.T) {
	for _, x := range []struct {
		what string
		l    []api.Keep
		want string
	}{
		{"nothing", nil, "...."},
		{"no sectors", keeps(0, 0, 1, 0, 2, 16), "...."},
		{"in order", keeps(0, 15, 1, 15, 2, 15), "cccc"},
		{"a later one before an earlier one", keeps(2, 15, 0, 15), "aaaa"},
		{"a later one before some sectors of an earlier one", keeps(1, 15, 0, 6), "baab"},
		{"one twice", keeps(0, 15, 1, 3, 0, 1), "abaa"},
		{"one twice, with different sectors", keeps(1, 1, 1, 8), "b..b"},
		{"one sector of each", keeps(0, 1, 1, 2, 2, 4), "abc."},
		{"one sector of each, backwards", keeps(2, 7, 1, 3, 0, 1), "abc."},
		{"no such index", keeps(4, 15, 5, 15, 65535, 15), "...."},
		{"no such index, and then one", keeps(4, 15, 1, 15, 65535, 15), "bbbb"},
		{"another block", keeps(3, 15), "...."},
		{"another block as well", keeps(3, 15, 2, 8, 3, 15), "...c"},
	} {
		d := device(t, 64)
		d.Write(20, full('.'))
		d.Write(21, full('.'))
		d.Flush()
		for _, c := range []byte("abc") {
			d.Write(20, full(c))
		}
		d.Write(21, full('d'))
		l := slices.Clone(x.l)
		want(t, x.what, d.Crash(l), api.OK)
		wantRead(t, x.what, d, 20, torn(x.want))
		other := full('.')
		if slices.Contains(x.l, api.Keep{At: 3, Sectors: 15}) {
			other = full('d')
		}
		wantRead(t, x.what, d, 21, other)
		wantNumbers(t, x.what, d, 0, 7, false)
		if !slices.Equal(l, x.l) {
			t.Errorf("%s: the list is changed", x.what)
		}
	}
}

// P3.2: with nothing pending there is nothing that a crash could keep.
func TestCrashOfNothing(t *testing.T) {
	d := device(t, 64)
	d.Write(0, full('a'))
	d.Flush()
	for _, l := range [][]api.Keep{nil, {}, keeps(0, 15), keeps(1, 15, 65535, 255)} {
		want(t, "Crash", d.Crash(l), api.OK)
		wantRead(t, "after a crash", d, 0, full('a'))
		wantNumbers(t, "after a crash", d, 0, 2, false)
	}
}

// P3.2: more writes can be pending than a Keep has indexes.
func TestMorePendingThanIndexes(t *testing.T) {
	d := device(t, 1<<17)
	for a := range uint32(1<<16 + 2) {
		d.Write(a, full(byte(a%255+1)))
	}
	wantNumbers(t, "pending", d, 1<<16+2, 1<<16+2, false)
	want(t, "Crash", d.Crash(keeps(0, 1, 65535, 15)), api.OK)
	wantRead(t, "index 0", d, 0, torn("\x01\x00\x00\x00"))
	wantRead(t, "index 65535", d, 65535, full(65535%255+1))
	for _, a := range []uint32{1, 65534, 65536, 65537} {
		wantRead(t, "lost", d, a, api.Block{})
	}
}

// P3.2, P3.3: a fuse of k lets k writes and flushes succeed, in any order; the device goes down at a write, or at a flush.
func TestFuses(t *testing.T) {
	for k := range 6 {
		for calls := range 1 << 7 {
			d := device(t, 64)
			d.Write(1, full('.'))
			d.Flush()
			want(t, "Fuse", d.Fuse(k), api.OK)
			durable, shown, pending := full('.'), full('.'), 0
			for i := range 7 {
				flush := calls>>i&1 == 1
				e := api.OK
				if i >= k {
					e = api.ErrDown
				}
				if flush {
					want(t, "Flush", d.Flush(), e)
				} else {
					want(t, "Write", d.Write(1, full(byte('a'+i))), e)
				}
				if flush && i < k {
					durable, pending = shown, 0
				}
				if !flush && i <= k {
					shown, pending = full(byte('a'+i)), pending+1
				}
				wantNumbers(t, "with a fuse", d, pending, uint64(2+min(i+1, k)), i >= k)
				wantRead(t, "with a fuse", d, 1, shown)
			}
			want(t, "Crash", d.Crash(nil), api.OK)
			wantNumbers(t, "after a crash", d, 0, uint64(2+k), false)
			wantRead(t, "after a crash", d, 1, durable)
		}
	}
}

// P3.2: the write at which the device goes down can be kept, those after it cannot.
func TestWriteThatGoesDownIsPending(t *testing.T) {
	for sectors := range 16 {
		d := device(t, 64)
		d.Fuse(2)
		for i, c := range []byte("abcde") {
			d.Write(uint32(i), full(c))
		}
		wantNumbers(t, "down", d, 3, 2, true)
		want(t, "Crash", d.Crash(keeps(2, sectors, 3, 15, 4, 15, 1, 15)), api.OK)
		s := []byte{0, 0, 0, 0}
		for i := range s {
			s[i] = 'c' * byte(sectors>>i&1)
		}
		for a, b := range []api.Block{{}, full('b'), torn(string(s)), {}, {}} {
			wantRead(t, "after a crash", d, uint32(a), b)
		}
	}
}

// P3.2: a fuse replaces the one before it, whether it is longer or shorter, and however much of that one is left.
func TestFuseIsReplaced(t *testing.T) {
	for _, x := range []struct{ first, used, second int }{{0, 0, 3}, {3, 0, 0}, {2, 2, 2}, {5, 1, 1}, {1, 1, 0}, {0, 0, 0}, {math.MaxInt, 3, 1}, {3, 2, math.MaxInt}} {
		d := device(t, 64)
		want(t, "Fuse", d.Fuse(x.first), api.OK)
		for range x.used {
			want(t, "Write", d.Write(0, full(1)), api.OK)
		}
		want(t, "Fuse", d.Fuse(x.second), api.OK)
		for range min(x.second, 20) {
			want(t, "Write", d.Write(0, full(2)), api.OK)
		}
		if x.second < 20 {
			want(t, "Write", d.Write(0, full(3)), api.ErrDown)
		}
		wantNumbers(t, "replaced", d, d.Pending(), uint64(x.used+min(x.second, 20)), x.second < 20)
	}
}

// P3.2: a k below 0 sets no fuse, and leaves the one that there is; a device that is down takes none.
func TestWrongFuses(t *testing.T) {
	wrong := []int{-1, -2, math.MinInt32, math.MinInt}
	d := device(t, 64)
	for _, k := range wrong {
		want(t, "Fuse", d.Fuse(k), api.ErrArg)
		want(t, "Write without a fuse", d.Write(0, full(1)), api.OK)
	}
	want(t, "Fuse", d.Fuse(1), api.OK)
	for _, k := range wrong {
		want(t, "Fuse", d.Fuse(k), api.ErrArg)
	}
	want(t, "Write", d.Write(0, full(1)), api.OK)
	want(t, "Flush", d.Flush(), api.ErrDown)
	for _, k := range wrong {
		want(t, "Fuse of a device that is down", d.Fuse(k), api.ErrArg)
	}
	for _, k := range []int{0, 1, math.MaxInt} {
		want(t, "Fuse of a device that is down", d.Fuse(k), api.ErrDown)
	}
	want(t, "Flush", d.Flush(), api.ErrDown)
	wantNumbers(t, "down", d, 5, 5, true)
}

// P3.2: calls that write nothing use up nothing of a fuse.
func TestWhatUsesNoFuse(t *testing.T) {
	d := device(t, 64)
	d.Fuse(1)
	for range 5 {
		want(t, "Write", d.Write(64, full(1)), api.ErrArg)
		want(t, "Fuse", d.Fuse(-1), api.ErrArg)
		d.Read(3)
		d.Read(64)
		d.Copy().Flush()
		d.Size()
		wantNumbers(t, "with a fuse", d, 0, 0, false)
	}
	want(t, "Flush", d.Flush(), api.OK)
	want(t, "Flush", d.Flush(), api.ErrDown)
}

// P3.1: on a device that is down: an address that it does not have comes before that, and it can be read.
func TestDown(t *testing.T) {
	d := device(t, 64)
	d.Write(1, full('a'))
	d.Flush()
	d.Fuse(0)
	wantNumbers(t, "before", d, 0, 2, false)
	want(t, "Write", d.Write(2, full('b')), api.ErrDown)
	want(t, "Write", d.Write(64, full('b')), api.ErrArg)
	want(t, "Write", d.Write(2, full('c')), api.ErrDown)
	want(t, "Flush", d.Flush(), api.ErrDown)
	wantRead(t, "durable", d, 1, full('a'))
	wantRead(t, "pending", d, 2, full('b'))
	if b, e := d.Read(64); b != (api.Block{}) || e != api.ErrArg {
		t.Errorf("Read(64) gives %x.., %d", b[:4], e)
	}
	wantNumbers(t, "down", d, 1, 2, true)
	if d.Size() != 64 {
		t.Errorf("Size is %d", d.Size())
	}
}

// P3.2: a crash removes the fuse, also one that has something left.
func TestCrashRemovesFuse(t *testing.T) {
	for _, used := range []int{0, 1, 2, 3, 4} {
		d := device(t, 64)
		d.Fuse(3)
		for range used {
			d.Write(0, full('a'))
		}
		want(t, "Crash", d.Crash(nil), api.OK)
		for range 50 {
			want(t, "Write", d.Write(0, full('b')), api.OK)
			want(t, "Flush", d.Flush(), api.OK)
		}
		wantNumbers(t, "after a crash", d, 0, uint64(min(used, 3)+100), false)
		want(t, "Fuse", d.Fuse(0), api.OK)
		want(t, "Flush", d.Flush(), api.ErrDown)
	}
}

// P3.3: a copy is equal, and each of the two goes its own way.
func TestCopy(t *testing.T) {
	d := device(t, 64)
	d.Write(1, full('a'))
	d.Write(2, full('a'))
	d.Flush()
	d.Write(2, full('b'))
	d.Fuse(3)
	c := d.Copy()
	want(t, "Write", d.Write(3, full('d')), api.OK)
	want(t, "Write", c.Write(3, full('c')), api.OK)
	wantRead(t, "the device", d, 3, full('d'))
	wantRead(t, "the copy", c, 3, full('c'))
	want(t, "Flush", c.Flush(), api.OK)
	wantNumbers(t, "the copy", c, 0, 6, false)
	wantNumbers(t, "the device", d, 2, 5, false)
	want(t, "Write", c.Write(1, api.Block{}), api.OK)
	want(t, "Write", c.Write(4, full('c')), api.ErrDown)
	x := c.Copy()
	wantNumbers(t, "a copy of a device that is down", x, 2, 7, true)
	want(t, "Write", x.Write(4, full('x')), api.ErrDown)
	want(t, "Crash", x.Crash(keeps(0, 15)), api.OK)
	wantNumbers(t, "the copy", c, 2, 7, true)
	want(t, "Crash", c.Crash(keeps(1, 15)), api.OK)
	want(t, "Crash", d.Crash(nil), api.OK)
	for _, y := range []struct {
		d    *dev.Dev
		want string
	}{{d, "aa\x00\x00"}, {c, "abcc"}, {x, "\x00bc\x00"}} {
		for i := range 4 {
			wantRead(t, "in the end", y.d, uint32(i+1), full(y.want[i]))
		}
		if y.d.Size() != 64 {
			t.Errorf("Size is %d", y.d.Size())
		}
	}
}

// P3.1 to P3.3: a nil pointer, and a zero object, is no device.
func TestNoDevice(t *testing.T) {
	for _, d := range []*dev.Dev{nil, new(dev.Dev), {}} {
		for range 2 {
			for _, a := range []uint32{0, 1, math.MaxUint32} {
				if b, e := d.Read(a); b != (api.Block{}) || e != api.ErrNil {
					t.Errorf("Read(%d) gives %x.., %d", a, b[:4], e)
				}
				want(t, "Write", d.Write(a, full(1)), api.ErrNil)
			}
			want(t, "Flush", d.Flush(), api.ErrNil)
			want(t, "Crash", d.Crash(nil), api.ErrNil)
			want(t, "Crash", d.Crash(keeps(0, 15)), api.ErrNil)
			for _, k := range []int{-1, 0, 1} {
				want(t, "Fuse", d.Fuse(k), api.ErrNil)
			}
			wantNumbers(t, "no device", d, 0, 0, false)
			if d.Size() != 0 || d.Copy() != nil {
				t.Error("no device has a size, or a copy")
			}
		}
	}
}

// naive is a device as the chapter's words say it.
type naive struct {
	durable [64]api.Block
	at      []uint32
	what    []api.Block
	fused   bool
	k       int
	down    bool
	writes  uint64
}

func (d *naive) copy() *naive {
	c := *d
	c.at, c.what = slices.Clone(d.at), slices.Clone(d.what)
	return &c
}

func (d *naive) read(a uint32) api.Block {
	b := d.durable[a]
	for i, at := range d.at {
		if at == a {
			b = d.what[i]
		}
	}
	return b
}

// burnt tells whether the device goes down at a write or a flush, which counts otherwise.
func (d *naive) burnt() bool {
	if d.fused && d.k == 0 {
		d.down = true
		return true
	}
	d.k--
	d.writes++
	return false
}

func (d *naive) write(a uint32, b api.Block) api.Errno {
	if a >= 64 {
		return api.ErrArg
	}
	if d.down {
		return api.ErrDown
	}
	d.at, d.what = append(d.at, a), append(d.what, b)
	if d.burnt() {
		return api.ErrDown
	}
	return api.OK
}

func (d *naive) flush() api.Errno {
	if d.down || d.burnt() {
		return api.ErrDown
	}
	for i, at := range d.at {
		d.durable[at] = d.what[i]
	}
	d.at, d.what = nil, nil
	return api.OK
}

func (d *naive) crash(l []api.Keep) {
	for _, k := range l {
		for i := range api.BlockBytes {
			if int(k.At) < len(d.at) && k.Sectors>>(i/64)&1 == 1 {
				d.durable[d.at[k.At]][i] = d.what[k.At][i]
			}
		}
	}
	d.at, d.what, d.fused, d.down = nil, nil, false, false
}

func (d *naive) fuse(k int) api.Errno {
	if k < 0 {
		return api.ErrArg
	}
	if d.down {
		return api.ErrDown
	}
	d.fused, d.k = true, k
	return api.OK
}

// pair is a device, and the same one as the chapter's words say it.
type pair struct {
	d *dev.Dev
	n *naive
}

func (p pair) copy() pair { return pair{p.d.Copy(), p.n.copy()} }

func (p pair) check(t *testing.T) {
	t.Helper()
	wantNumbers(t, "the same calls", p.d, len(p.n.at), p.n.writes, p.n.down)
	for a := range uint32(64) {
		wantRead(t, "the same calls", p.d, a, p.n.read(a))
	}
}

// step makes the same call of both, drawn by x.
func (p pair) step(t *testing.T, x *noise) {
	t.Helper()
	switch x.below(16) {
	case 0, 1:
		want(t, "Flush", p.d.Flush(), p.n.flush())
	case 2:
		k := x.below(12) - 1
		want(t, "Fuse", p.d.Fuse(k), p.n.fuse(k))
	case 3:
		var l []api.Keep
		for range x.below(8) {
			l = append(l, api.Keep{At: uint16(x.below(len(p.n.at) + 2)), Sectors: uint8(x.next())})
		}
		want(t, "Crash", p.d.Crash(l), api.OK)
		p.n.crash(l)
	default:
		a, b := uint32(x.below(65)), x.block()
		if x.below(2) == 0 {
			a %= 4
		}
		want(t, "Write", p.d.Write(a, b), p.n.write(a, b))
	}
}

// P3.1 to P3.3: any calls, on devices and copies of them in turn.
func TestAnyCalls(t *testing.T) {
	x := noise(1)
	for range 20 {
		l := []pair{{device(t, 64), &naive{}}}
		for range 300 {
			i := x.below(len(l))
			l[i].step(t, &x)
			if x.below(40) == 0 {
				l = append(l, l[i].copy())
			}
			l[x.below(len(l))].check(t)
		}
		for _, p := range l {
			p.check(t)
		}
	}
}

// busy is a device with durable blocks and pending writes, and what was durable when it was flushed.
func busy(t *testing.T, x *noise) (*dev.Dev, []api.Block) {
	t.Helper()
	d := device(t, 64)
	for range 30 {
		d.Write(uint32(x.below(64)), x.block())
	}
	d.Flush()
	durable := contents(d)
	for range x.below(20) {
		d.Write(uint32(x.below(8)), x.block())
	}
	return d, durable
}

// contents are all blocks of a device of 64.
func contents(d *dev.Dev) []api.Block {
	var l []api.Block
	for a := range uint32(64) {
		b, _ := d.Read(a)
		l = append(l, b)
	}
	return l
}

// P3.4: a crash that keeps all pending writes, in order, has the effect of a flush.
func TestCrashThatKeepsAll(t *testing.T) {
	x := noise(2)
	for range 300 {
		d, _ := busy(t, &x)
		read, c := contents(d), d.Copy()
		var l []api.Keep
		for i := range d.Pending() {
			l = append(l, api.Keep{At: uint16(i), Sectors: 15})
		}
		d.Crash(l)
		c.Flush()
		if !slices.Equal(contents(d), read) || !slices.Equal(contents(c), read) || d.Pending() != c.Pending() {
			t.Error("a crash that keeps all is not a flush")
		}
		c.Crash(nil)
		d.Crash(nil)
		if !slices.Equal(contents(d), read) || !slices.Equal(contents(c), read) {
			t.Error("what was kept, or flushed, is lost")
		}
	}
}

// P3.4: a crash that keeps nothing leaves what was durable.
func TestCrashThatKeepsNothing(t *testing.T) {
	x := noise(3)
	for range 300 {
		d, durable := busy(t, &x)
		d.Crash([][]api.Keep{nil, {}, keeps(0, 0, 1, 240), keeps(d.Pending(), 15)}[x.below(4)])
		if !slices.Equal(contents(d), durable) {
			t.Error("not what was durable")
		}
	}
}

// P3.4: what was flushed survives every crash, except in those sectors that are kept of a pending write.
func TestFlushedSurvives(t *testing.T) {
	x := noise(4)
	for range 300 {
		d, durable := busy(t, &x)
		var at []uint32
		for range 10 {
			at = append(at, uint32(x.below(64)))
		}
		d.Crash(nil)
		for _, a := range at {
			d.Write(a, x.block())
		}
		var l []api.Keep
		kept := map[uint32]uint8{}
		for range x.below(6) {
			k := api.Keep{At: uint16(x.below(10)), Sectors: uint8(x.below(16))}
			l = append(l, k)
			kept[at[k.At]] |= k.Sectors
		}
		d.Crash(l)
		for a, b := range contents(d) {
			for i := range b {
				if kept[uint32(a)]>>(i/64)&1 == 0 && b[i] != durable[a][i] {
					t.Fatalf("byte %d of the block %d is lost", i, a)
				}
			}
		}
	}
}

// R4: the same calls on another device have the same answers, whatever is done to the first one.
func TestSameAnswerAgain(t *testing.T) {
	x, y := noise(5), noise(5)
	p, q := pair{device(t, 64), &naive{}}, pair{device(t, 64), &naive{}}
	for range 200 {
		p.step(t, &x)
	}
	p.d.Crash(nil)
	for range 200 {
		q.step(t, &y)
	}
	q.check(t)
}

// R5: a list of Keeps is not kept: a change of it after the crash means nothing.
func TestListIsNotKept(t *testing.T) {
	d := device(t, 64)
	d.Write(0, full('a'))
	l := append(keeps(0, 15), keeps(0, 3)...)
	d.Crash(l[:1:2])
	if l[1] != (api.Keep{At: 0, Sectors: 3}) {
		t.Error("what lies behind the list is changed")
	}
	d.Write(0, full('b'))
	l[0].Sectors = 0
	wantRead(t, "after a crash", d, 0, full('b'))
	d.Crash(nil)
	wantRead(t, "after two crashes", d, 0, full('a'))
}
