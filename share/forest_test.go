package share_test

import (
	"testing"

	"pantile/api"
	"pantile/dev"
	"pantile/node"
	"pantile/share"
	"pantile/stage"
)

// value is what is to be seen through a pointer: contents of a block of level 0, or what is to be seen through the pointers of a node. It is never changed, so that others may have it, too.
type value struct {
	level uint8
	leaf  api.Block
	kids  [32]*value
}

// with is the same value, with another one at an index.
func (v *value) with(i int, kid *value) *value {
	c := *v
	c.kids[i] = kid
	return &c
}

// outer is a pointer from outside.
type outer struct {
	at  uint32
	see *value
}

// forest is a stage, with all pointers that lead to its blocks from outside.
type forest struct {
	*noise
	t   *testing.T
	d   *dev.Dev
	r   api.Root
	s   *stage.Stage
	out []outer
	did map[string]int
}

// plant is a forest without blocks.
func plant(t *testing.T, n *noise, size uint32) *forest {
	d, r := with(t, size, disk{})
	return &forest{noise: n, t: t, d: d, r: r, s: over(t, d, r), did: map[string]int{}}
}

// node returns the node of a block.
func (f *forest) node(a uint32) api.Node {
	f.t.Helper()
	b, _ := f.s.Read(a)
	n, e := node.Get(b)
	if e != api.OK {
		f.t.Fatalf("the block %d is no node", a)
	}
	return n
}

// write makes a node the contents of a block that is owned.
func (f *forest) write(a uint32, n api.Node) {
	f.t.Helper()
	b, _ := node.Put(n)
	want(f.t, "Put", f.s.Put(a, b), api.OK)
}

// sees reports whether what is seen of the block a is this value.
func (f *forest) sees(a uint32, v *value) bool {
	if v.level == 0 {
		b, e := f.s.Read(a)
		return e == api.OK && b == v.leaf
	}
	n := f.node(a)
	for i, p := range n.Ptr {
		if (p == 0) != (v.kids[i] == nil) || p != 0 && !f.sees(p, v.kids[i]) {
			return false
		}
	}
	return n.Level == v.level
}

// reckon adds the pointers of what a leads to, if it was not reached before.
func (f *forest) reckon(counts map[uint32]uint16, a uint32, level uint8) {
	if counts[a]++; counts[a] > 1 || level == 0 {
		return
	}
	for _, p := range f.node(a).Ptr {
		if p != 0 {
			f.reckon(counts, p, level-1)
		}
	}
}

// check asks that each count is the number of pointers, and that each pointer sees what it has to.
func (f *forest) check(what string) {
	f.t.Helper()
	counts := map[uint32]uint16{}
	for i, o := range f.out {
		f.reckon(counts, o.at, o.see.level)
		if !f.sees(o.at, o.see) {
			f.t.Errorf("%s: the pointer %d to %d (level %d) sees something else", what, i, o.at, o.see.level)
		}
	}
	wantAllCounts(f.t, what, f.s, counts)
	if f.t.Failed() {
		f.t.FailNow()
	}
}

// room counts the steps that were done, and those for which there was no room. It reports whether the step was done.
func (f *forest) room(what string, e api.Errno) bool {
	f.t.Helper()
	switch e {
	case api.OK:
		f.did[what]++
		return true
	case api.ErrSpace:
		if f.did["without room"]++; f.s.Room(false) != 0 {
			f.t.Errorf("%s: ErrSpace with a room of %d", what, f.s.Room(false))
		}
		return false
	}
	f.t.Fatalf("%s: error %d", what, e)
	return false
}

// find returns any outer pointer to a block of a level, or -1.
func (f *forest) find(level uint8) int {
	if len(f.out) == 0 {
		return -1
	}
	from := f.below(len(f.out))
	for i := range f.out {
		if k := (from + i) % len(f.out); f.out[k].see.level == level {
			return k
		}
	}
	return -1
}

// index is one of a few, so that the same ones are met often.
func (f *forest) index() int { return []int{0, 1, 7, 31}[f.below(4)] }

// grow makes a leaf, or a node that leads to what others see, too.
func (f *forest) grow() {
	v := &value{level: uint8(f.below(4))}
	b := f.block()
	var l []uint32
	if v.level == 0 {
		v.leaf = b
	} else {
		n := api.Node{Level: v.level}
		for range f.below(4) {
			if k, i := f.find(v.level-1), f.index(); k >= 0 && n.Ptr[i] == 0 {
				n.Ptr[i], v.kids[i] = f.out[k].at, f.out[k].see
				l = append(l, f.out[k].at)
			}
		}
		b, _ = node.Put(n)
	}
	a, e := f.s.New(b, false)
	if !f.room("grown", e) {
		return
	}
	for _, p := range l {
		want(f.t, "Retain", share.Retain(f.s, p), api.OK)
	}
	f.out = append(f.out, outer{a, v})
}

// own owns the block of an outer pointer, which leads to what is owned then.
func (f *forest) own(k int) bool {
	o := &f.out[k]
	a, e := share.Own(f.s, o.at, o.see.level)
	if !f.room("owned", e) {
		return false
	}
	f.wantOwned(o.at, a)
	o.at = a
	return true
}

// wantOwned asks that a block is one that can be written, and is another one only if it must be.
func (f *forest) wantOwned(a, own uint32) {
	f.t.Helper()
	if c, _ := f.s.Count(own); c != 1 || !f.s.Fresh(own) {
		f.t.Errorf("owned is %d, with the count %d; Fresh is %t", own, c, f.s.Fresh(own))
	}
	if a != own {
		f.did["copied"]++
	}
}

// retain makes one more outer pointer.
func (f *forest) retain(k int) {
	want(f.t, "Retain", share.Retain(f.s, f.out[k].at), api.OK)
	f.out = append(f.out, f.out[k])
	f.did["retained"]++
}

// release gives up an outer pointer.
func (f *forest) release(k int) {
	free := f.s.Free()
	want(f.t, "Release", share.Release(f.s, f.out[k].at, f.out[k].see.level), api.OK)
	f.out = append(f.out[:k], f.out[k+1:]...)
	if f.did["released"]++; f.s.Free() > free+2 {
		f.did["released with what was below"]++
	}
}

// change writes something below an outer pointer: a leaf, or a pointer of a node. The path to it is owned from the top down.
func (f *forest) change(k int) {
	if f.own(k) {
		f.out[k].see = f.descend(f.out[k].at, f.out[k].see)
	}
}

// descend changes an owned block, or something below it, and returns what is to be seen of it then.
func (f *forest) descend(a uint32, v *value) *value {
	if v.level == 0 {
		b := f.block()
		want(f.t, "Put", f.s.Put(a, b), api.OK)
		f.did["written"]++
		return &value{leaf: b}
	}
	n, i := f.node(a), f.index()
	if n.Ptr[i] == 0 || f.below(4) == 0 {
		return f.link(a, n, i, v)
	}
	kid, e := share.Own(f.s, n.Ptr[i], v.level-1)
	if !f.room("owned", e) {
		return v
	}
	f.wantOwned(n.Ptr[i], kid)
	n.Ptr[i] = kid
	f.write(a, n)
	return v.with(i, f.descend(kid, v.kids[i]))
}

// link lets a pointer of an owned node lead to what another one sees, too, or nowhere.
func (f *forest) link(a uint32, n api.Node, i int, v *value) *value {
	old := n.Ptr[i]
	var see *value
	if n.Ptr[i] = 0; f.below(3) != 0 {
		if k := f.find(v.level - 1); k >= 0 {
			n.Ptr[i], see = f.out[k].at, f.out[k].see
			want(f.t, "Retain", share.Retain(f.s, n.Ptr[i]), api.OK)
		}
	}
	f.write(a, n)
	if old != 0 {
		want(f.t, "Release", share.Release(f.s, old, v.level-1), api.OK)
	}
	f.did["linked"]++
	return v.with(i, see)
}

// commit goes on with a new stage, for which no block is fresh. Which pointers there are is not written anywhere.
func (f *forest) commit() {
	r, e := f.s.Commit(0, 0, 1)
	want(f.t, "Commit", e, api.OK)
	f.d.Crash(nil)
	f.r, f.s = r, over(f.t, f.d, r)
	f.did["committed"]++
}

// abandon goes back to what was committed.
func (f *forest) abandon(was []outer) {
	f.s, f.out = over(f.t, f.d, f.r), was
	f.did["abandoned"]++
}

// step does one thing to the forest, and tells what.
func (f *forest) step() string {
	k := f.find(uint8(f.below(4)))
	switch {
	case k < 0 || f.below(6) == 0:
		f.grow()
		return "grown"
	case f.below(5) == 0:
		f.retain(k)
		return "retained"
	case f.below(3) == 0:
		f.release(k)
		return "released"
	case f.below(3) == 0:
		f.own(k)
		return "owned"
	}
	f.change(k)
	return "changed"
}

// P12.3, P12.4: rows of calls and writes on trees that share blocks: each count is the number of pointers, and nothing is seen to change but through the pointer that is written. When all pointers are given up, nothing is left.
func TestForest(t *testing.T) {
	n := noise(20)
	did := map[string]int{}
	for _, size := range []uint32{64, 100, 200} {
		for range 8 {
			f := plant(t, &n, size)
			var was []outer
			for range 250 {
				f.check(f.step())
				switch n.below(30) {
				case 0, 1:
					f.commit()
					f.check("committed")
					was = append([]outer(nil), f.out...)
				case 2:
					f.abandon(append([]outer(nil), was...))
					f.check("abandoned")
				}
			}
			for len(f.out) > 0 {
				f.release(n.below(len(f.out)))
				f.check("at last")
			}
			wantAllCounts(t, "nothing is left", f.s, nil)
			for what, c := range f.did {
				did[what] += c
			}
		}
	}
	for _, what := range []string{"grown", "owned", "copied", "retained", "released", "released with what was below", "written", "linked", "committed", "abandoned", "without room"} {
		if did[what] < 100 {
			t.Errorf("%s %d times: too few to tell", what, did[what])
		}
	}
	if t.Failed() {
		t.Log(did)
	}
}
