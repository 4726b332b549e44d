package card_test

import (
	"fmt"
	"math"
	"slices"
	"strings"
	"testing"

	"pantile/api"
	"pantile/card"
	"pantile/crc"
	"pantile/field"
)

const (
	onlyAt = 54 // the byte of Only
	behind = 55 // the first byte behind the fields
)

// noise is a source of numbers that are the same in each run.
type noise uint64

func (n *noise) next() uint64 {
	*n = *n*6364136223846793005 + 1442695040888963407
	return uint64(*n) ^ uint64(*n)>>33
}

func (n *noise) below(end int) int { return int(n.next() % uint64(end)) }

func (n *noise) text(length int) string {
	b := make([]byte, length)
	for i := range b {
		b[i] = byte(n.next())
	}
	return string(b)
}

// card is a valid one, of which often some numbers are 0, or at an edge.
func (n *noise) card() api.Card {
	c := api.Card{Name: n.text(1 + n.below(24))}
	c.Left, c.Right = uint32(n.below(3)), uint32(n.next())
	if c.Left == c.Right || n.below(4) == 0 {
		c.Left, c.Right = 0, 0
	}
	v := &c.Vol
	v.Id = uint32(1 + n.below(math.MaxUint32))
	v.Parent = v.Id - uint32(n.below(2))*uint32(1+n.below(1<<20)) - 1
	v.Quota = uint32(1 + n.below(1<<n.below(16)))
	if n.below(3) > 0 {
		v.Used, v.Root = uint32(1+n.below(int(v.Quota))), uint32(1+n.below(1<<20))
	}
	v.Only = v.Parent != 0 && n.below(2) == 0
	return c
}

// full is a valid card without any 0 in it.
func full() api.Card {
	return api.Card{Name: "home", Left: 0x04030201, Right: 0x14131211,
		Vol: api.Vol{Id: 0x24232221, Parent: 0x34333231, Root: 0x44434241, Used: 0x5251, Quota: 0x6261, Only: true}}
}

// small is the valid card with the least in it.
func small() api.Card { return api.Card{Name: "a", Vol: api.Vol{Id: 1, Quota: 1}} }

// with is c, changed.
func with(c api.Card, change func(c *api.Card)) api.Card {
	change(&c)
	return c
}

// edges are cards around all edges that the chapter names; each is valid, or not, as valid says.
func edges() []api.Card {
	l := []api.Card{{}, full(), small(), {Name: "ab", Left: 7, Vol: api.Vol{Id: 3, Root: 9, Used: 2, Quota: 5}}}
	ends := []uint32{0, 1, 2, 32767, 32768, 32769, 1<<20 - 1, 1 << 20, 1 << 31, math.MaxUint32}
	for _, base := range []api.Card{full(), small()} {
		for _, length := range []int{0, 1, 2, 23, 24, 25, 26, 200, 255, 256, 257, 280, 65537} {
			l = append(l, with(base, func(c *api.Card) { c.Name = strings.Repeat("x", length) }))
		}
		for _, a := range ends {
			l = append(l,
				with(base, func(c *api.Card) { c.Left = a }),
				with(base, func(c *api.Card) { c.Right = a }),
				with(base, func(c *api.Card) { c.Vol.Id = a }),
				with(base, func(c *api.Card) { c.Vol.Parent = a }))
			for _, b := range ends {
				l = append(l,
					with(base, func(c *api.Card) { c.Left, c.Right = a, b }),
					with(base, func(c *api.Card) { c.Vol.Id, c.Vol.Parent, c.Vol.Only = a, b, true }),
					with(base, func(c *api.Card) { c.Vol.Id, c.Vol.Parent, c.Vol.Only = a, b, false }),
					with(base, func(c *api.Card) { c.Vol.Root, c.Vol.Used, c.Vol.Quota = a, b, 32768 }),
					with(base, func(c *api.Card) { c.Vol.Root, c.Vol.Used, c.Vol.Quota = 9, a, b }),
					with(base, func(c *api.Card) { c.Vol.Root, c.Vol.Used, c.Vol.Quota = 0, a, b }))
			}
		}
	}
	return l
}

// valid tells it by what the chapter says, one condition after the other.
func valid(c api.Card) bool {
	v := c.Vol
	switch {
	case c.Name == "" || len(c.Name) > 24:
		return false
	case c.Left == c.Right && c.Right != 0:
		return false
	case v.Id == 0, v.Id == v.Parent:
		return false
	case v.Quota == 0, v.Quota > 32768, v.Used > v.Quota:
		return false
	case v.Root == 0 && v.Used != 0, v.Root != 0 && v.Used == 0:
		return false
	case v.Only && v.Parent == 0:
		return false
	}
	return true
}

// fieldsOf are the bytes of a card's fields, with that length of its name, room for it, and byte of Only.
func fieldsOf(c api.Card, length int, room string, only byte) string {
	s := string([]byte{0x43, byte(length)}) + room
	for _, n := range []uint32{c.Left, c.Right, c.Vol.Id, c.Vol.Parent, c.Vol.Root, c.Vol.Used, c.Vol.Quota} {
		for range 4 {
			s += string([]byte{byte(n % 256)})
			n /= 256
		}
	}
	return s + string([]byte{only})
}

// sealed is a block that begins with these bytes.
func sealed(s string) api.Block {
	var b api.Block
	copy(b[:252], s)
	return crc.Seal(b)
}

// laid is the block of any card whose name has at most 24 bytes, byte by byte, as the chapter says it (also of one that is not valid).
func laid(c api.Card) api.Block {
	only := byte(0)
	if c.Vol.Only {
		only = 1
	}
	return sealed(fieldsOf(c, len(c.Name), c.Name+strings.Repeat("\x00", 24-len(c.Name)), only))
}

// said is the card that a sealed block says by its bytes alone, and whether it is the block of a valid card.
func said(b api.Block) (c api.Card, ok bool) {
	length := int(b[1])
	if b[0] != 0x43 || length > 24 || b[onlyAt] > 1 {
		return c, false
	}
	num := func(at int) uint32 {
		return uint32(b[at]) + uint32(b[at+1])<<8 + uint32(b[at+2])<<16 + uint32(b[at+3])<<24
	}
	c = api.Card{Name: string(b[2 : 2+length]), Left: num(26), Right: num(30),
		Vol: api.Vol{Id: num(34), Parent: num(38), Root: num(42), Used: num(46), Quota: num(50), Only: b[onlyAt] == 1}}
	return c, valid(c) && laid(c) == b
}

// short tells a card by what is short of it.
func short(c api.Card) string {
	return fmt.Sprintf("%d bytes %.30q, %d, %d, %v", len(c.Name), c.Name, c.Left, c.Right, c.Vol)
}

// wantBad asks that Get refuses b, and returns no card then (R3).
func wantBad(t *testing.T, what string, b api.Block) {
	t.Helper()
	if c, e := card.Get(b); c != (api.Card{}) || e != api.ErrBad {
		t.Errorf("%s: Get gives %s, %d, want no card and ErrBad", what, short(c), e)
	}
}

// wantForm asks that c is not valid, and that Put returns no block then (R3).
func wantForm(t *testing.T, what string, c api.Card) {
	t.Helper()
	if card.May(c) {
		t.Errorf("%s: %s may be", what, short(c))
	}
	if b, e := card.Put(c); b != (api.Block{}) || e != api.ErrForm {
		t.Errorf("%s: Put of %s gives %x.., %d, want no block and ErrForm", what, short(c), b[:8], e)
	}
}

// wantBoth asks that a valid card and its block are each other's, and that asking again answers the same (R4).
func wantBoth(t *testing.T, c api.Card) {
	t.Helper()
	want := laid(c)
	for range 2 {
		if !card.May(c) {
			t.Errorf("%s may not be", short(c))
		}
		if b, e := card.Put(c); b != want || e != api.OK {
			t.Errorf("Put of %s gives %x, %d, want %x", short(c), b, e, want)
		}
		if got, e := card.Get(want); got != c || e != api.OK {
			t.Errorf("Get gives %s, %d, want %s", short(got), e, short(c))
		}
	}
}

// wantSaid asks that Get returns of a sealed block what its bytes say.
func wantSaid(t *testing.T, what string, b api.Block) {
	t.Helper()
	want, ok := said(b)
	if !ok {
		wantBad(t, what, b)
	} else if got, e := card.Get(b); got != want || e != api.OK {
		t.Errorf("%s: Get gives %s, %d, want %s", what, short(got), e, short(want))
	}
}

// P6.1: the chapter's examples.
func TestExamples(t *testing.T) {
	c := api.Card{Name: "ab", Left: 7, Vol: api.Vol{Id: 3, Root: 9, Used: 2, Quota: 5}}
	b, e := card.Put(c)
	if string(b[:4]) != "\x43\x02ab" || e != api.OK || !card.May(c) {
		t.Errorf("Put gives %x.., %d", b[:4], e)
	}
	if got := card.Kids(c); !slices.Equal(got, []uint32{7, 9}) {
		t.Errorf("Kids gives %v", got)
	}
	wantForm(t, "Id 0", with(c, func(c *api.Card) { c.Vol.Id = 0 }))
	wantForm(t, "Used 6", with(c, func(c *api.Card) { c.Vol.Used = 6 }))
	wantForm(t, "Root 0", with(c, func(c *api.Card) { c.Vol.Root = 0 }))
	wantForm(t, "Only", with(c, func(c *api.Card) { c.Vol.Only = true }))
	wantForm(t, "Right 7", with(c, func(c *api.Card) { c.Right = 7 }))
	wantForm(t, "Name nothing", with(c, func(c *api.Card) { c.Name = "" }))
}

// P6.1: the bytes of a block, one by one.
func TestBytes(t *testing.T) {
	want := sealed("\x43\x04home" + strings.Repeat("\x00", 20) + "\x01\x02\x03\x04\x11\x12\x13\x14\x21\x22\x23\x24\x31\x32\x33\x34\x41\x42\x43\x44\x51\x52\x00\x00\x61\x62\x00\x00\x01")
	if b, e := card.Put(full()); b != want || e != api.OK || !crc.Good(b) {
		t.Errorf("Put gives %x, %d, want %x", b, e, want)
	}
	if c, e := card.Get(want); c != full() || e != api.OK {
		t.Errorf("Get gives %s, %d", short(c), e)
	}
	want = sealed("\x43\x01a" + strings.Repeat("\x00", 31) + "\x01" + strings.Repeat("\x00", 15) + "\x01")
	if b, e := card.Put(small()); b != want || e != api.OK {
		t.Errorf("Put gives %x, %d, want %x", b, e, want)
	}
}

// P6.1, P6.2: all edges: a valid card and its block are each other's; one that is not valid has no block, and what would be its block is refused.
func TestEdges(t *testing.T) {
	for _, c := range edges() {
		if valid(c) {
			wantBoth(t, c)
			continue
		}
		wantForm(t, "an edge", c)
		if len(c.Name) <= 24 {
			wantBad(t, "the block of "+short(c), laid(c))
		}
	}
}

// P6.1: each condition alone, at both of its sides.
func TestMay(t *testing.T) {
	for i, x := range []struct {
		want   bool
		change func(c *api.Card)
	}{
		{true, func(c *api.Card) {}},
		{false, func(c *api.Card) { c.Name = "" }},
		{true, func(c *api.Card) { c.Name = "x" }},
		{true, func(c *api.Card) { c.Name = strings.Repeat("x", 24) }},
		{false, func(c *api.Card) { c.Name = strings.Repeat("x", 25) }},
		{false, func(c *api.Card) { c.Name = strings.Repeat("\xc3\xbc", 13) }},
		{true, func(c *api.Card) { c.Name = strings.Repeat("\xc3\xbc", 12) }},
		{false, func(c *api.Card) { c.Left = c.Right }},
		{false, func(c *api.Card) { c.Right = c.Left }},
		{true, func(c *api.Card) { c.Left, c.Right = 0, 0 }},
		{true, func(c *api.Card) { c.Left = 0 }},
		{true, func(c *api.Card) { c.Right = 0 }},
		{true, func(c *api.Card) { c.Left, c.Right = math.MaxUint32, 1 }},
		{false, func(c *api.Card) { c.Left, c.Right = math.MaxUint32, math.MaxUint32 }},
		{true, func(c *api.Card) { c.Left = c.Vol.Root }},
		{false, func(c *api.Card) { c.Vol.Id = 0 }},
		{false, func(c *api.Card) { c.Vol.Id, c.Vol.Parent = 0, 0 }},
		{true, func(c *api.Card) { c.Vol.Id = math.MaxUint32 }},
		{false, func(c *api.Card) { c.Vol.Id = c.Vol.Parent }},
		{false, func(c *api.Card) { c.Vol.Id, c.Vol.Only = c.Vol.Parent, false }},
		{true, func(c *api.Card) { c.Vol.Parent, c.Vol.Only = 0, false }},
		{false, func(c *api.Card) { c.Vol.Parent = 0 }},
		{true, func(c *api.Card) { c.Vol.Only = false }},
		{true, func(c *api.Card) { c.Vol.Parent = c.Vol.Id + 1 }},
		{true, func(c *api.Card) { c.Vol.Parent = math.MaxUint32 }},
		{false, func(c *api.Card) { c.Vol.Root = 0 }},
		{false, func(c *api.Card) { c.Vol.Used = 0 }},
		{true, func(c *api.Card) { c.Vol.Root, c.Vol.Used = 0, 0 }},
		{true, func(c *api.Card) { c.Vol.Root = math.MaxUint32 }},
		{true, func(c *api.Card) { c.Vol.Used = c.Vol.Quota }},
		{false, func(c *api.Card) { c.Vol.Used = c.Vol.Quota + 1 }},
		{false, func(c *api.Card) { c.Vol.Used = math.MaxUint32 }},
		{false, func(c *api.Card) { c.Vol.Quota = 0 }},
		{false, func(c *api.Card) { c.Vol.Root, c.Vol.Used, c.Vol.Quota = 0, 0, 0 }},
		{true, func(c *api.Card) { c.Vol.Used, c.Vol.Quota = 1, 1 }},
		{true, func(c *api.Card) { c.Vol.Used, c.Vol.Quota = 32768, 32768 }},
		{false, func(c *api.Card) { c.Vol.Quota = 32769 }},
		{false, func(c *api.Card) { c.Vol.Used, c.Vol.Quota = 32769, 32769 }},
		{false, func(c *api.Card) { c.Vol.Quota = math.MaxUint32 }},
	} {
		c := with(full(), x.change)
		if card.May(c) != x.want || valid(c) != x.want {
			t.Errorf("case %d: May of %s gives %t, want %t", i, short(c), card.May(c), x.want)
		}
		if x.want {
			wantBoth(t, c)
		} else {
			wantForm(t, "a condition", c)
		}
	}
}

// P6.1: names of any bytes, of each length; also those that no volume has (layer 14).
func TestNames(t *testing.T) {
	n := noise(1)
	for length := range 300 {
		for _, name := range []string{n.text(length), strings.Repeat("\x00", length), strings.Repeat("\xff", length)} {
			c := with(full(), func(c *api.Card) { c.Name = name })
			if length >= 1 && length <= 24 {
				wantBoth(t, c)
			} else {
				wantForm(t, "a name", c)
			}
		}
	}
}

// P6.1: each byte of each number has its own place.
func TestEachPlace(t *testing.T) {
	for bit := range 32 {
		n := uint32(1) << bit
		for _, change := range []func(c *api.Card){
			func(c *api.Card) { c.Left = n },
			func(c *api.Card) { c.Right = n },
			func(c *api.Card) { c.Vol.Id = n },
			func(c *api.Card) { c.Vol.Parent = n },
			func(c *api.Card) { c.Vol.Root = n },
		} {
			wantBoth(t, with(full(), change))
		}
		if n <= 32768 {
			wantBoth(t, with(full(), func(c *api.Card) { c.Vol.Used, c.Vol.Quota = n, 32768 }))
			wantBoth(t, with(full(), func(c *api.Card) { c.Vol.Used, c.Vol.Quota = 1, n }))
		}
	}
}

// P6.2: a sealed block whose fields are those of a card that is not valid in one way is refused.
func TestGetRefusesFields(t *testing.T) {
	for _, x := range []struct {
		what   string
		change func(c *api.Card)
	}{
		{"no name", func(c *api.Card) { c.Name = "" }},
		{"Left and Right the same", func(c *api.Card) { c.Left = c.Right }},
		{"Id 0", func(c *api.Card) { c.Vol.Id = 0 }},
		{"Parent equal to Id", func(c *api.Card) { c.Vol.Parent = c.Vol.Id }},
		{"Quota 0", func(c *api.Card) { c.Vol.Root, c.Vol.Used, c.Vol.Quota = 0, 0, 0 }},
		{"Quota 32769", func(c *api.Card) { c.Vol.Quota = 32769 }},
		{"Used above Quota", func(c *api.Card) { c.Vol.Used = c.Vol.Quota + 1 }},
		{"Root 0", func(c *api.Card) { c.Vol.Root = 0 }},
		{"Used 0", func(c *api.Card) { c.Vol.Used = 0 }},
		{"Only without a Parent", func(c *api.Card) { c.Vol.Parent = 0 }},
	} {
		wantBad(t, x.what, laid(with(full(), x.change)))
	}
}

// P6.2: the byte of Only is 0 or 1.
func TestGetOnly(t *testing.T) {
	for only := range 256 {
		b := laid(full())
		b[onlyAt] = byte(only)
		b = crc.Seal(b)
		if only > 1 {
			wantBad(t, "the byte of Only", b)
			continue
		}
		want := with(full(), func(c *api.Card) { c.Vol.Only = only == 1 })
		if got, e := card.Get(b); got != want || e != api.OK {
			t.Errorf("the byte of Only is %d: Get gives %s, %d", only, short(got), e)
		}
	}
}

// P6.2: each length of a name, with nothing behind its end in the room, or with a byte there.
func TestGetRoom(t *testing.T) {
	n := noise(2)
	for length := range 256 {
		name := strings.Repeat("n", min(length, 24))
		rest := strings.Repeat("\x00", 24-len(name))
		if length < 1 || length > 24 {
			wantBad(t, "the length of a name", sealed(fieldsOf(full(), length, name+rest, 1)))
			continue
		}
		want := with(full(), func(c *api.Card) { c.Name = name })
		if got, e := card.Get(sealed(fieldsOf(full(), length, name+rest, 1))); got != want || e != api.OK {
			t.Errorf("a name of %d bytes: Get gives %s, %d", length, short(got), e)
		}
		for i := range rest {
			other := []byte(rest)
			other[i] = byte(1 + n.below(255))
			wantBad(t, "a byte behind the name", sealed(fieldsOf(full(), length, name+string(other), 1)))
		}
	}
}

// P6.2: nothing but zeros lies behind the last field.
func TestGetBehind(t *testing.T) {
	for i := behind; i < 252; i++ {
		for _, c := range []byte{1, 0x80, 0xff} {
			for _, b := range []api.Block{laid(full()), laid(small())} {
				b[i] = c
				wantBad(t, "a byte behind the fields", crc.Seal(b))
			}
		}
	}
	for _, width := range []int{1, 2, 4, 8} {
		w := field.New()
		w.Text("a", 24)
		for _, n := range []uint64{0, 0, 1, 0, 0, 0, 1} {
			w.Num(n, 4)
		}
		w.Num(0, 1)
		w.Num(1, width)
		b, _ := w.Done(0x43)
		wantBad(t, "one field more", b)
	}
}

// written is a block with the magic of cards: the fields of full, with that room for the name, and these widths.
func written(t *testing.T, room, width, onlyWidth int) api.Block {
	t.Helper()
	c := full()
	w := field.New()
	w.Text(c.Name, room)
	for _, n := range []uint32{c.Left, c.Right, c.Vol.Id, c.Vol.Parent, c.Vol.Root, c.Vol.Used, c.Vol.Quota} {
		w.Num(uint64(n), width)
	}
	w.Num(1, onlyWidth)
	b, e := w.Done(0x43)
	if e != api.OK {
		t.Fatalf("room %d, widths %d and %d are not written: %d", room, width, onlyWidth, e)
	}
	return b
}

// P6.2: fields of other rooms or widths are refused. A wider Only is the same bytes, with zeros behind them.
func TestGetWidths(t *testing.T) {
	for room := 4; room <= 200; room++ {
		if b := written(t, room, 4, 1); room != 24 {
			wantBad(t, fmt.Sprintf("a room of %d", room), b)
		}
	}
	for _, width := range []int{1, 2, 8} {
		wantBad(t, fmt.Sprintf("numbers of %d bytes", width), written(t, 24, width, 1))
	}
	for _, width := range []int{1, 2, 4, 8} {
		if got, e := card.Get(written(t, 24, 4, width)); got != full() || e != api.OK {
			t.Errorf("Only of %d bytes: Get gives %s, %d", width, short(got), e)
		}
	}
}

// P6.2: fields that end too early make a block that zeros complete: what it says then counts.
func TestGetEarly(t *testing.T) {
	for _, c := range []api.Card{full(), small(), {Name: "ab", Left: 7, Vol: api.Vol{Id: 3, Root: 9, Used: 2, Quota: 5}}} {
		b := laid(c)
		for i := behind; i >= 0; i-- {
			b[i] = 0
			wantSaid(t, fmt.Sprintf("%s until byte %d", short(c), i), crc.Seal(b))
		}
	}
	wantBad(t, "nothing but a magic", crc.Seal(api.Block{0x43}))
}

// P6.2: a block with another magic is refused.
func TestGetMagic(t *testing.T) {
	for magic := range 256 {
		if magic != 0x43 {
			b := laid(full())
			b[0] = byte(magic)
			wantBad(t, "another magic", b)
			wantBad(t, "another magic, sealed", crc.Seal(b))
		}
	}
}

// P6.2: a block of which a byte is inverted is not sealed any more, and one that is sealed again counts as what it then says.
func TestGetTurned(t *testing.T) {
	for _, c := range []api.Card{full(), small(), {Name: strings.Repeat("z", 24), Right: 5, Vol: api.Vol{Id: 2, Parent: 1, Root: 9, Used: 32768, Quota: 32768}}} {
		b := laid(c)
		for i := range b {
			for _, turn := range []byte{1, 2, 4, 8, 16, 32, 64, 128, 255} {
				x := b
				x[i] ^= turn
				wantBad(t, fmt.Sprintf("byte %d turned by %d", i, turn), x)
				wantSaid(t, fmt.Sprintf("byte %d turned by %d, sealed again", i, turn), crc.Seal(x))
			}
		}
	}
}

// flip inverts the bits of the burst that lie in the block: its highest bit is the block's bit at, the highest bit of byte 0 first.
func flip(b api.Block, at int, burst uint32) api.Block {
	for i := 0; i < 32 && at+i < 8*len(b); i++ {
		if burst>>(31-i)&1 == 1 {
			b[(at+i)/8] ^= 128 >> ((at + i) % 8)
		}
	}
	return b
}

// P6.2, P6.3: bursts from each bit of the block on, of each length, make it the block of no card.
func TestBursts(t *testing.T) {
	n := noise(3)
	for _, c := range []api.Card{full(), small(), n.card()} {
		b := laid(c)
		for at := range 2048 {
			last := uint32(1) << n.below(32)
			for _, burst := range []uint32{1 << 31, 1<<31 | 1, math.MaxUint32, 1<<31 | last, -last | 1<<31, 1<<31 | uint32(n.next())} {
				wantBad(t, fmt.Sprintf("the burst %08x at bit %d", burst, at), flip(b, at, burst))
			}
		}
	}
}

// P6.3: a burst that makes the fields those of another valid card is no block of a card either, before it is sealed.
func TestBurstToOtherCard(t *testing.T) {
	a := with(full(), func(c *api.Card) { c.Vol.Id = 77 })
	b, other := laid(full()), laid(a)
	for i := range 252 {
		b[i] = other[i]
	}
	wantBad(t, "the fields of another card", b)
	if got, e := card.Get(crc.Seal(b)); got != a || e != api.OK {
		t.Errorf("sealed: Get gives %s, %d", short(got), e)
	}
}

// P6.2: zero blocks, sealed or not, blocks of other layers, and blocks of noise are refused.
func TestGetOther(t *testing.T) {
	wantBad(t, "the zero block", api.Block{})
	wantBad(t, "the zero block, sealed", crc.Seal(api.Block{}))
	b := laid(full())
	b[252], b[253], b[254], b[255] = 0, 0, 0, 0
	wantBad(t, "a block without a checksum", b)
	n := noise(4)
	for range 300 {
		for i := range b {
			b[i] = byte(n.next())
		}
		wantBad(t, "noise", b)
		wantBad(t, "noise, sealed", crc.Seal(b))
		b[0] = 0x43
		wantBad(t, "noise with the magic", crc.Seal(b))
		copy(b[:], "\x43\x04home"+strings.Repeat("\x00", 20))
		clear(b[behind:])
		wantSaid(t, "numbers of noise", crc.Seal(b))
	}
}

// P6.2: the pointers that are not 0, in order, of any card, also of one that is not valid.
func TestKids(t *testing.T) {
	for _, left := range []uint32{0, 1, 7, 1 << 20, math.MaxUint32} {
		for _, right := range []uint32{0, 1, 7, 2, math.MaxUint32} {
			for _, root := range []uint32{0, 1, 7, 3, 1 << 31, math.MaxUint32} {
				var want []uint32
				if left != 0 {
					want = append(want, left)
				}
				if right != 0 {
					want = append(want, right)
				}
				if root != 0 {
					want = append(want, root)
				}
				for _, base := range []api.Card{full(), {}, {Name: strings.Repeat("x", 99)}, {Vol: api.Vol{Id: 8, Parent: 8, Used: 8, Only: true}}} {
					base.Left, base.Right, base.Vol.Root = left, right, root
					if got := card.Kids(base); !slices.Equal(got, want) {
						t.Errorf("Kids of %s gives %v, want %v", short(base), got, want)
					}
				}
			}
		}
	}
}

// P6.2, R5: what is returned shares no memory with another answer, nor does its spare capacity.
func TestKidsNewMemory(t *testing.T) {
	first, second := card.Kids(full()), card.Kids(full())
	first = first[:cap(first)]
	for i := range first {
		first[i] = 77
	}
	want := []uint32{full().Left, full().Right, full().Vol.Root}
	if !slices.Equal(second, want) || slices.Contains(second[:cap(second)], 77) || !slices.Equal(card.Kids(full()), want) {
		t.Errorf("an answer that was written changed another: %v", second[:cap(second)])
	}
}

// P6.3: a card and its block determine each other.
func TestBackAndForth(t *testing.T) {
	n := noise(5)
	seen := map[api.Block]api.Card{}
	for range 3000 {
		c := n.card()
		if !valid(c) {
			t.Fatalf("%s is not valid", short(c))
		}
		wantBoth(t, c)
		b, _ := card.Put(c)
		if other, there := seen[b]; there && other != c {
			t.Fatalf("%s and %s have the same block", short(c), short(other))
		}
		seen[b] = c
		d, _ := card.Get(b)
		if again, e := card.Put(d); d != c || again != b || e != api.OK {
			t.Fatalf("%s comes back as %s, its block %x as %x", short(c), short(d), b, again)
		}
	}
}

// P6.3: cards that differ little have different blocks: in the end of the name, in one number, in Only.
func TestDifferentBlocks(t *testing.T) {
	seen := map[api.Block]bool{}
	cards := 0
	note := func(c api.Card) {
		b, e := card.Put(c)
		if e != api.OK || seen[b] {
			t.Errorf("%s: its block is another card's already, or %d", short(c), e)
		}
		seen[b] = true
		cards++
	}
	for length := 1; length <= 24; length++ {
		note(with(full(), func(c *api.Card) { c.Name = strings.Repeat("\x00", length) }))
		note(with(full(), func(c *api.Card) { c.Name = strings.Repeat("\x00", length-1) + "\x01" }))
	}
	for _, n := range []uint32{3, 5, 9} {
		note(with(full(), func(c *api.Card) { c.Left = n }))
		note(with(full(), func(c *api.Card) { c.Right = n }))
		note(with(full(), func(c *api.Card) { c.Vol.Id = n }))
		note(with(full(), func(c *api.Card) { c.Vol.Parent = n }))
		note(with(full(), func(c *api.Card) { c.Vol.Root = n }))
		note(with(full(), func(c *api.Card) { c.Vol.Used = n }))
		note(with(full(), func(c *api.Card) { c.Vol.Quota = 30000 + n }))
	}
	note(with(full(), func(c *api.Card) { c.Vol.Only = false }))
	note(full())
	if len(seen) != cards {
		t.Errorf("%d cards have %d blocks", cards, len(seen))
	}
}
