package field_test

import (
	"math"
	"strings"
	"testing"

	"pantile/api"
	"pantile/crc"
	"pantile/field"
)

// item is a field: a string with a room, or a number of a width.
type item struct {
	text bool
	n    uint64
	s    string
	size int
}

func num(n uint64, width int) item { return item{n: n, size: width} }
func text(s string, room int) item { return item{text: true, s: s, size: room} }

// length is how many bytes the field takes.
func (x item) length() int {
	if x.text {
		return 1 + x.size
	}
	return x.size
}

// bytes are those of the field, as the chapter says them.
func (x item) bytes() string {
	if x.text {
		return string([]byte{byte(len(x.s))}) + x.s + strings.Repeat("\x00", x.size-len(x.s))
	}
	var b []byte
	n := x.n
	for range x.size {
		b = append(b, byte(n%256))
		n /= 256
	}
	return string(b)
}

func (x item) put(w *field.Writer) {
	if x.text {
		w.Text(x.s, x.size)
	} else {
		w.Num(x.n, x.size)
	}
}

// get returns what is read of a field of this kind and size.
func (x item) get(r *field.Reader) item {
	if x.text {
		return text(r.Text(x.size), x.size)
	}
	return num(r.Num(x.size), x.size)
}

func writer(l ...item) *field.Writer {
	w := field.New()
	for _, x := range l {
		x.put(w)
	}
	return w
}

// sealed is a block that begins with these bytes.
func sealed(s string) api.Block {
	var b api.Block
	copy(b[:252], s)
	return crc.Seal(b)
}

// written is the written block, as the chapter says it.
func written(magic byte, l ...item) api.Block {
	s := string([]byte{magic})
	for _, x := range l {
		s += x.bytes()
	}
	return sealed(s)
}

// noise is a source of numbers that are the same in each run.
type noise uint64

func (n *noise) next() uint64 {
	*n = *n*6364136223846793005 + 1442695040888963407
	return uint64(*n) ^ uint64(*n)>>33
}

func (n *noise) below(end int) int { return int(n.next() % uint64(end)) }

func (n *noise) text(length int) string {
	b := make([]byte, length)
	for i := range b {
		b[i] = byte(n.next())
	}
	return string(b)
}

// fields are some that have room in a block.
func (n *noise) fields() []item {
	var l []item
	for left := 251; ; {
		x := num(n.next(), 1<<n.below(4))
		if x.size < 8 {
			x.n %= 1 << (8 * x.size)
		}
		if n.below(2) == 0 {
			room := n.below(40)
			x = text(n.text(n.below(room+1)), room)
		}
		if left -= x.length(); left < 0 || n.below(20) == 0 {
			return l
		}
		l = append(l, x)
	}
}

// odd are widths, and rooms, far from those that are allowed.
func odd() []int {
	return []int{math.MinInt, math.MinInt + 1, -1 << 32, -256, 1 << 8, 1<<8 + 1, 1<<16 + 4, 1<<32 + 8, math.MaxInt - 1, math.MaxInt}
}

func wantDone(t *testing.T, what string, w *field.Writer, magic byte, want api.Block) {
	t.Helper()
	if b, e := w.Done(magic); b != want || e != api.OK {
		t.Errorf("%q: Done gives %x, %d, want %x", what, b, e, want)
	}
}

func wantLong(t *testing.T, what string, w *field.Writer) {
	t.Helper()
	if b, e := w.Done(7); b != (api.Block{}) || e != api.ErrLong {
		t.Errorf("%q: Done gives %x, %d, want ErrLong and zeros", what, b, e)
	}
}

// wantFailed holds that the reader has failed, gives zero values, and remains so.
func wantFailed(t *testing.T, what string, r *field.Reader) {
	t.Helper()
	for range 2 {
		if r.Fine() || r.End() != api.ErrBad {
			t.Errorf("%s: the reader has not failed", what)
		}
		for _, width := range []int{1, 2, 4, 8, 3} {
			if n := r.Num(width); n != 0 {
				t.Errorf("%s: Num(%d) of a failed reader gives %d", what, width, n)
			}
		}
		for _, room := range []int{0, 1, 4, 200, 201} {
			if s := r.Text(room); s != "" {
				t.Errorf("%s: Text(%d) of a failed reader gives %q", what, room, s)
			}
		}
	}
}

// P2.1: the bytes of a block, one by one.
func TestWrittenBlock(t *testing.T) {
	for _, x := range []struct {
		magic byte
		l     []item
		want  string
	}{
		{7, []item{num(300, 2), num(5, 1)}, "\x07\x2c\x01\x05"},
		{0, nil, ""},
		{255, nil, "\xff"},
		{1, []item{num(0x0102030405060708, 8), num(0x0102030405060708, 4), num(0x0102030405060708, 2), num(0x0102030405060708, 1)},
			"\x01\x08\x07\x06\x05\x04\x03\x02\x01\x08\x07\x06\x05\x08\x07\x08"},
		{2, []item{num(math.MaxUint64, 1), num(0, 1), num(math.MaxUint64, 2), num(0, 1), num(math.MaxUint64, 4), num(0, 1), num(math.MaxUint64, 8)},
			"\x02\xff\x00\xff\xff\x00\xff\xff\xff\xff\x00\xff\xff\xff\xff\xff\xff\xff\xff"},
		{3, []item{text("ab", 4), text("", 0), text("", 2), text("\x00\xff", 2), num(9, 1)},
			"\x03\x02ab\x00\x00\x00\x00\x00\x00\x02\x00\xff\x09"},
	} {
		want := sealed(x.want)
		wantDone(t, x.want, writer(x.l...), x.magic, want)
		if got := written(x.magic, x.l...); got != want {
			t.Errorf("the test's own block of %q is %x", x.want, got)
		}
	}
}

// P2.1: each magic.
func TestMagics(t *testing.T) {
	for m := range 256 {
		l := []item{num(uint64(m)*257, 4), text("name", 9)}
		wantDone(t, "magic", writer(l...), byte(m), written(byte(m), l...))
	}
}

// P2.1: of all widths only 1, 2, 4 and 8 are allowed.
func TestWritersWidths(t *testing.T) {
	widths := odd()
	for i := -300; i <= 300; i++ {
		widths = append(widths, i)
	}
	for _, width := range widths {
		switch width {
		case 1, 2, 4, 8:
			wantDone(t, "width", writer(num(200, width)), 7, written(7, num(200, width)))
		default:
			wantLong(t, "width", writer(num(0, width)))
		}
	}
}

// P2.1: each room with the empty string, with one as long as it, and with one that is longer by 1; rooms that are not allowed.
func TestWritersRooms(t *testing.T) {
	n := noise(1)
	for room := range 201 {
		for _, length := range []int{0, room / 2, room} {
			x := text(n.text(length), room)
			wantDone(t, "room", writer(x, num(6, 1)), 7, written(7, x, num(6, 1)))
		}
		wantLong(t, "one byte too long", writer(text(n.text(room+1), room)))
	}
	for room := -300; room <= 500; room++ {
		if room < 0 || room > 200 {
			wantLong(t, "room", writer(text("", room)))
			wantLong(t, "room", writer(text("a", room)))
		}
	}
	for _, room := range odd() {
		wantLong(t, "odd room", writer(text("", room)))
	}
}

// P2.1: the length of these, as a byte, is not greater than the room.
func TestStringsWhoseLengthIsNoByte(t *testing.T) {
	for _, length := range []int{255, 256, 257, 260, 456, 512, 1 << 16, 1<<20 + 3} {
		wantLong(t, "long string", writer(text(strings.Repeat("\x00", length), 200)))
		wantLong(t, "long string", writer(text(strings.Repeat("x", length), 4)))
	}
}

// full are fields that end with the 252nd byte, the last one of each kind in turn.
func full() [][]item {
	n := noise(2)
	lasts := []item{num(n.next()%256, 1), num(n.next()%65536, 2), num(n.next()%(1<<32), 4), num(n.next(), 8)}
	for _, room := range []int{0, 1, 50, 199, 200} {
		lasts = append(lasts, text(n.text(room), room))
	}
	var all [][]item
	for _, last := range lasts {
		var l []item
		for range 251 - last.length() {
			l = append(l, num(n.next()%256, 1))
		}
		all = append(all, append(l, last))
	}
	return all
}

// P2.1: fields that end with the 252nd byte, and the same ones a byte further.
func TestFullBlocks(t *testing.T) {
	for _, l := range full() {
		wantDone(t, "full block", writer(l...), 7, written(7, l...))
		wantLong(t, "a byte further", writer(append([]item{num(1, 1)}, l...)...))
		for _, more := range []item{num(0, 1), num(0, 8), text("", 0), text("", 200)} {
			w := writer(l...)
			more.put(w)
			wantLong(t, "a field behind a full block", w)
		}
	}
}

// P2.1: a field that crosses the end fails wherever it begins, and one that does not is there.
func TestWritersEachPosition(t *testing.T) {
	for at := 1; at <= 252; at++ {
		for _, last := range []item{num(77, 1), num(77, 2), num(77, 4), num(77, 8), text("", 0), text("a", 1), text("abc", 200)} {
			l := []item{}
			for range at - 1 {
				l = append(l, num(uint64(at), 1))
			}
			l = append(l, last)
			if at+last.length() <= 252 {
				wantDone(t, "position", writer(l...), 7, written(7, l...))
			} else {
				wantLong(t, "position", writer(l...))
			}
		}
	}
}

// failures are fields of which each makes a writer fail behind 40 bytes of fields.
func failures() []item {
	return []item{num(1, 3), num(1, 0), num(0, -1), text("", -1), text("", 201), text("abc", 2), text("a", 0), text("", 200+math.MaxInt/2)}
}

// P2.1: a writer that failed remains so, whatever follows.
func TestFailedWriterGoesOn(t *testing.T) {
	before := []item{text("before", 31), num(1, 8)}
	for _, bad := range failures() {
		w := writer(append(before, bad)...)
		wantLong(t, "failed", w)
		for _, x := range []item{num(1, 1), text("", 0), text("ab", 4), num(1, 8)} {
			x.put(w)
			wantLong(t, "failed, and went on", w)
		}
	}
	w := writer(text("", 200), text("", 50))
	num(1, 1).put(w)
	wantLong(t, "too long, and went on with what has room", w)
	wantLong(t, "the first field fails", writer(num(1, 5), num(1, 4)))
}

// P2.1: Done changes nothing, so that it can be called again, and the writer can go on.
func TestDoneLeavesTheWriter(t *testing.T) {
	a, b := []item{num(300, 2)}, []item{num(300, 2), text("xyz", 5), num(1, 4)}
	w := writer(a...)
	wantDone(t, "first", w, 7, written(7, a...))
	wantDone(t, "second", w, 7, written(7, a...))
	wantDone(t, "with another magic", w, 200, written(200, a...))
	for _, x := range b[1:] {
		x.put(w)
	}
	wantDone(t, "with more fields", w, 7, written(7, b...))
	wantDone(t, "with magic 0", w, 0, written(0, b...))
}

// P2.1: writers know nothing of each other.
func TestWritersAreApart(t *testing.T) {
	v, w, bad := field.New(), field.New(), field.New()
	for i := range 20 {
		num(uint64(i), 2).put(v)
		num(1, i%8).put(bad)
		text("w", i%3+1).put(w)
	}
	var lv, lw []item
	for i := range 20 {
		lv, lw = append(lv, num(uint64(i), 2)), append(lw, text("w", i%3+1))
	}
	wantDone(t, "one", v, 7, written(7, lv...))
	wantDone(t, "another", w, 7, written(7, lw...))
	wantLong(t, "one that failed", bad)
}

// P2.1: nil and zero writers count as failed, whatever is appended.
func TestNoWriter(t *testing.T) {
	for _, w := range []*field.Writer{nil, new(field.Writer), {}} {
		wantLong(t, "no object", w)
		for _, x := range append(failures(), num(1, 1), text("a", 3), num(2, 8)) {
			x.put(w)
			wantLong(t, "no object, appended to", w)
		}
	}
	w := new(field.Writer)
	num(1, 1).put(w)
	if *w != (field.Writer{}) {
		t.Error("Num does something to a zero writer")
	}
	text("a", 1).put(w)
	if *w != (field.Writer{}) {
		t.Error("Text does something to a zero writer")
	}
}

// P2.2: numbers and strings of a block that is laid down byte by byte.
func TestReadFields(t *testing.T) {
	b := sealed("\x07\x2c\x01\x05\x02ab\x00\x00\xff\xfe\xfd\xfc\x01\x02\x03\x04\x05\x06\x07\x88\x00\x03\x00\xff\x00\x00")
	r := field.Open(b, 7)
	for i, want := range []item{num(300, 2), num(5, 1), text("ab", 4), num(0xfcfdfeff, 4), num(0x8807060504030201, 8), text("", 0), text("\x00\xff\x00", 4)} {
		if got := want.get(r); got != want || !r.Fine() {
			t.Errorf("field %d: %v, want %v", i, got, want)
		}
	}
	if e := r.End(); e != api.OK {
		t.Errorf("End gives %d", e)
	}
}

// P2.2: the same bytes by other widths and rooms, in which they are other fields.
func TestReadWhatIsAtThePosition(t *testing.T) {
	b := sealed("\x09\x01\x02\x03\x04\x05\x06\x07\x08\x01z")
	for _, l := range [][]item{
		{num(0x0807060504030201, 8), text("z", 1)},
		{num(0x04030201, 4), num(0x08070605, 4), num(1, 1), num('z', 1)},
		{num(0x0201, 2), num(0x0403, 2), num(0x0605, 2), num(0x0807, 2), num(0x7a01, 2)},
		{num(1, 1), num(0x0302, 2), num(4, 1), num(0x08070605, 4), text("z", 100)},
	} {
		r := field.Open(b, 9)
		for _, want := range l {
			if got := want.get(r); got != want {
				t.Errorf("%v, want %v", got, want)
			}
		}
		if !r.Fine() || r.End() != api.OK {
			t.Errorf("%v: not fine at the end", l)
		}
	}
}

// P2.2: zeros and blocks that are not sealed, in any byte.
func TestOpenRefusesWhatIsNotSealed(t *testing.T) {
	wantFailed(t, "zeros", field.Open(api.Block{}, 0))
	good := written(7, num(300, 2), text("ab", 4))
	for i := range good {
		for _, bit := range []byte{1, 128} {
			b := good
			b[i] ^= bit
			wantFailed(t, "not sealed", field.Open(b, b[0]))
		}
	}
	unsealed := good
	copy(unsealed[252:], "\x00\x00\x00\x00")
	wantFailed(t, "no checksum", field.Open(unsealed, 7))
}

// P2.2: each magic is taken by itself alone.
func TestOpenRefusesAnotherMagic(t *testing.T) {
	for m := range 256 {
		b := written(byte(m), num(300, 2))
		for other := range 256 {
			r := field.Open(b, byte(other))
			if other != m {
				wantFailed(t, "magic", r)
			} else if !r.Fine() || r.Num(2) != 300 || r.End() != api.OK {
				t.Errorf("magic %d: not read", m)
			}
		}
	}
}

// P2.2: of all widths only 1, 2, 4 and 8 are allowed, of all rooms only 0 to 200.
func TestReadersWidthsAndRooms(t *testing.T) {
	sizes := odd()
	for i := -300; i <= 500; i++ {
		sizes = append(sizes, i)
	}
	b := sealed("\x07\x00")
	for _, size := range sizes {
		r := field.Open(b, 7)
		n := r.Num(size)
		switch size {
		case 1, 2, 4, 8:
			if n != 0 || !r.Fine() {
				t.Errorf("Num(%d) fails", size)
			}
		default:
			wantFailed(t, "width", r)
		}
		r = field.Open(b, 7)
		s := r.Text(size)
		if size < 0 || size > 200 {
			wantFailed(t, "room", r)
		} else if s != "" || !r.Fine() {
			t.Errorf("Text(%d) fails", size)
		}
	}
}

// P2.2: fields that end with the 252nd byte are read, and not one byte beyond it.
func TestReadFullBlocks(t *testing.T) {
	for _, l := range full() {
		for _, more := range []item{num(0, 1), num(0, 2), num(0, 4), num(0, 8), text("", 0), text("", 4), text("", 200)} {
			r := field.Open(written(7, l...), 7)
			for _, want := range l {
				if got := want.get(r); got != want {
					t.Errorf("%v, want %v", got, want)
				}
			}
			if !r.Fine() || r.End() != api.OK {
				t.Error("not fine at the end of a full block")
			}
			if got := more.get(r); got.n != 0 || got.s != "" {
				t.Errorf("%v behind the end", got)
			}
			wantFailed(t, "behind the end", r)
		}
	}
}

// P2.2: a field that crosses the end fails wherever it begins.
func TestReadersEachPosition(t *testing.T) {
	for at := 1; at <= 252; at++ {
		for _, want := range []item{num(0, 1), num(0, 2), num(0, 4), num(0, 8), text("", 0), text("", 1), text("", 200)} {
			r := field.Open(sealed("\x07"), 7)
			for range at - 1 {
				r.Num(1)
			}
			got := want.get(r)
			if at+want.length() > 252 {
				wantFailed(t, "position", r)
			} else if got != want || !r.Fine() {
				t.Errorf("at %d: %v, want %v", at, got, want)
			}
		}
	}
}

// P2.2: a length greater than the room, by 1 and by more, with bytes that look like a string, and with none.
func TestReadLengthBeyondTheRoom(t *testing.T) {
	for room := range 201 {
		for _, length := range []int{room + 1, room + 2, 201, 255} {
			if length <= room || length > 255 {
				continue
			}
			for _, fill := range []string{"x", "\x00"} {
				r := field.Open(sealed("\x07"+string([]byte{byte(length)})+strings.Repeat(fill, 240)), 7)
				if s := r.Text(room); s != "" {
					t.Errorf("length %d, room %d: %q", length, room, s)
				}
				wantFailed(t, "length", r)
			}
		}
	}
}

// P2.2: each byte of the rest of a room, and the byte behind the room, which does not belong to it.
func TestReadRestOfTheRoom(t *testing.T) {
	for _, room := range []int{1, 2, 24, 200} {
		for _, length := range []int{0, 1, room - 1, room} {
			x := text(strings.Repeat("y", length), room)
			for i := length; i < room; i++ {
				b := written(7, x)
				b[2+i] = 1
				r := field.Open(crc.Seal(b), 7)
				if s := r.Text(room); s != "" {
					t.Errorf("%q, with a byte %d behind it in its room", s, i)
				}
				wantFailed(t, "rest", r)
			}
			r := field.Open(written(7, x, num(255, 1)), 7)
			if s := r.Text(room); s != x.s || r.Num(1) != 255 || r.End() != api.OK {
				t.Errorf("%q, want %q, and a byte behind its room", s, x.s)
			}
		}
	}
}

// P2.2: what fails in the middle of a block remains failed, also for fields that are there. (A 5 at the position is no length of a string with the room 1.)
func TestReaderRemainsFailed(t *testing.T) {
	l := []item{num(300, 2), num(5, 1), text("ab", 4)}
	for _, bad := range []item{num(0, 3), num(0, 0), text("", 201), text("", -1), text("", 1)} {
		r := field.Open(written(7, l...), 7)
		r.Num(2)
		bad.get(r)
		wantFailed(t, "in the middle", r)
	}
}

// P2.3: Fine and End examine, and change nothing.
func TestEndLeavesTheReader(t *testing.T) {
	l := []item{num(300, 2), num(5, 1), text("ab", 4), num(9, 1)}
	r := field.Open(written(7, l...), 7)
	for _, want := range l {
		for range 2 {
			if e := r.End(); e != api.ErrBad || !r.Fine() {
				t.Errorf("before %v: End gives %d, or the reader fails by it", want, e)
			}
		}
		if got := want.get(r); got != want {
			t.Errorf("%v, want %v", got, want)
		}
	}
	for range 2 {
		if e := r.End(); e != api.OK || !r.Fine() {
			t.Errorf("End gives %d", e)
		}
	}
	if n := r.Num(8); n != 0 || !r.Fine() || r.End() != api.OK {
		t.Error("the zeros behind the fields are not read as a number")
	}
}

// P2.3: a byte that is not 0 counts from the position up to and including the 252nd byte, and nowhere else.
func TestEndOfEachByte(t *testing.T) {
	for _, at := range []int{1, 2, 9, 128, 251, 252} {
		for i := 1; i < 252; i++ {
			var b api.Block
			b[0], b[i] = 7, 128
			r := field.Open(crc.Seal(b), 7)
			for range at - 1 {
				r.Num(1)
			}
			want := api.OK
			if i >= at {
				want = api.ErrBad
			}
			if e := r.End(); e != want || !r.Fine() {
				t.Errorf("at %d, with a byte at %d: End gives %d, want %d", at, i, e, want)
			}
		}
	}
}

// P2.3: of a block without fields.
func TestEndAtOnce(t *testing.T) {
	for _, magic := range []byte{0, 7, 255} {
		r := field.Open(written(magic), magic)
		if !r.Fine() || r.End() != api.OK {
			t.Errorf("magic %d: an empty block is not fine", magic)
		}
	}
}

// P2.2, P2.3: nil and zero readers count as failed.
func TestNoReader(t *testing.T) {
	for _, r := range []*field.Reader{nil, new(field.Reader), {}} {
		wantFailed(t, "no object", r)
		for _, size := range odd() {
			if r.Num(size) != 0 || r.Text(size) != "" {
				t.Error("no object gives something")
			}
		}
		wantFailed(t, "no object, read", r)
	}
}

// reads returns the fields that are read in the way of l, and what End says.
func reads(b api.Block, magic byte, l []item) ([]item, api.Errno) {
	r := field.Open(b, magic)
	var got []item
	for _, x := range l {
		got = append(got, x.get(r))
	}
	return got, r.End()
}

func same(a, b []item) bool {
	for i := range a {
		if a[i] != b[i] {
			return false
		}
	}
	return len(a) == len(b)
}

// P2.4: what was written is read again.
func TestWrittenIsReadAgain(t *testing.T) {
	n := noise(3)
	for range 2000 {
		l, magic := n.fields(), byte(n.next())
		w := writer(l...)
		wantDone(t, "fields", w, magic, written(magic, l...))
		b, _ := w.Done(magic)
		if got, e := reads(b, magic, l); !same(got, l) || e != api.OK {
			t.Errorf("%v, %d is read, %v was written", got, e, l)
		}
	}
}

// P2.4: of blocks with any bytes changed, and sealed again, those that are read to the end are what writing makes.
func TestReadIsWrittenAgain(t *testing.T) {
	n := noise(4)
	taken, refused := 0, 0
	for range 4000 {
		l := n.fields()
		b := written(7, l...)
		for range n.below(3) {
			b[1+n.below(251)] = byte(n.below(3) * n.below(100))
		}
		b = crc.Seal(b)
		way := l
		if n.below(4) == 0 {
			way = n.fields()
		}
		got, e := reads(b, 7, way)
		if e != api.OK {
			refused++
			continue
		}
		taken++
		wantDone(t, "read again", writer(got...), 7, b)
	}
	if taken < 200 || refused < 200 {
		t.Errorf("%d blocks are taken, %d are not: too few to tell", taken, refused)
	}
}

// P2.4: each single byte of the fields and behind them, with each value.
func TestReadIsWrittenAgainByteByByte(t *testing.T) {
	l := []item{num(300, 2), text("ab", 4), text("", 0), num(1<<40, 8), text("name", 24)}
	good := written(7, l...)
	for i := 1; i < 252; i++ {
		for c := range 256 {
			b := good
			b[i] = byte(c)
			b = crc.Seal(b)
			got, e := reads(b, 7, l)
			if e != api.OK {
				continue
			}
			if back, _ := writer(got...).Done(7); back != b {
				t.Fatalf("byte %d, value %d: what is read is written as %x", i, c, back)
			}
		}
	}
}

// R4: the same answers a second time, whatever else was written and read in between.
func TestSameAnswerAgain(t *testing.T) {
	n := noise(5)
	l := n.fields()
	a, _ := writer(l...).Done(7)
	writer(failures()...).Done(7)
	field.Open(api.Block{}, 7).Num(1)
	b, _ := writer(l...).Done(7)
	if a != b {
		t.Error("another block")
	}
	if got, e := reads(b, 7, l); !same(got, l) || e != api.OK {
		t.Error("another answer")
	}
}

// R5: a string that was read stays, whatever the reader does then; and two readers of one block are apart.
func TestReadersAreApart(t *testing.T) {
	b := written(7, text("first", 8), text("second", 8))
	r, other := field.Open(b, 7), field.Open(b, 7)
	s := r.Text(8)
	r.Text(8)
	r.Num(3)
	if s != "first" || other.Text(8) != "first" || !other.Fine() || r.Fine() {
		t.Error("what one reader does is seen elsewhere")
	}
}
