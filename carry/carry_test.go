package carry_test

import (
	"math"
	"slices"
	"testing"

	"veneer/api"
	"veneer/blob"
	"veneer/carry"
	"veneer/sha"
)

// kinds: each kind by which New and Reach may be asked; wrong ones, too.
func kinds() map[int]api.Errno {
	return map[int]api.Errno{
		api.NodeFile: api.OK, api.NodeDir: api.OK, api.NodeChunk: api.ErrKind,
		0: api.ErrKind, 4: api.ErrKind, -1: api.ErrKind, -2: api.ErrKind, -3: api.ErrKind, math.MinInt: api.ErrKind, math.MaxInt: api.ErrKind,
	}
}

// P8.1: a nil store ahead of a kind that may not be.
func TestNewArgs(t *testing.T) {
	m := newSample(t)
	for _, root := range []api.Digest{{}, m.root, m.b, m.x} {
		for kind, want := range kinds() {
			if c, e := carry.New(nil, root, kind); c != nil || e != api.ErrNil {
				t.Errorf("P8.1: New(nil, %d): %v, %d", kind, c, e)
			}
			before := stored(m.s)
			if c, e := carry.New(m.s, root, kind); (c != nil) != (want == api.OK) || e != want {
				t.Errorf("P8.1: New(%d): %v, %d; want %d", kind, c, e, want)
			}
			if stored(m.s) != before {
				t.Errorf("P8.1: New(%d) has changed the store", kind)
			}
		}
	}
}

// P8.1: over a store that has nothing of it, and one that has all.
func TestNewNothingAndAll(t *testing.T) {
	m := newSample(t)
	for root, kind := range map[api.Digest]int{m.root: api.NodeDir, m.a: api.NodeDir, m.f: api.NodeFile, m.b: api.NodeFile} {
		wants(t, "P8.1: nothing", open(t, roomy(), root, kind), false, root)
		wants(t, "P8.1: all", open(t, m.s, root, kind), false)
		wants(t, "P8.1: no room", open(t, blob.New(0), root, kind), false, root)
	}
	empty := roomy()
	wants(t, "P8.1: an empty directory", open(t, empty, add(t, empty, dir()), api.NodeDir), false)
	wants(t, "P8.1: a file of no bytes", open(t, empty, add(t, empty, file()), api.NodeFile), false)
	wants(t, "P8.1: the zero digest", open(t, empty, api.Digest{}, api.NodeDir), false, api.Digest{})
}

// P8.1: over a store that has parts: what is below a blob that isn't there isn't looked at.
func TestNewParts(t *testing.T) {
	m := newSample(t)
	for _, r := range []struct {
		gone, want []api.Digest
	}{
		{[]api.Digest{m.root}, []api.Digest{m.root}},
		{[]api.Digest{m.root, m.a, m.x}, []api.Digest{m.root}},
		{[]api.Digest{m.a}, []api.Digest{m.a}},
		{[]api.Digest{m.b, m.a}, []api.Digest{m.a, m.b}},
		{[]api.Digest{m.f}, []api.Digest{m.f}},
		{[]api.Digest{m.f, m.y}, []api.Digest{m.f, m.y}},
		{[]api.Digest{m.f, m.x}, []api.Digest{m.f, m.x}},
		{[]api.Digest{m.b, m.z}, []api.Digest{m.b}},
		{[]api.Digest{m.z, m.y, m.x}, []api.Digest{m.x, m.y, m.z}},
		{[]api.Digest{m.g, m.z}, []api.Digest{m.g, m.z}},
		{[]api.Digest{m.z, m.a, m.y}, []api.Digest{m.a, m.y, m.z}},
	} {
		wants(t, "P8.1: without "+show(r.gone), open(t, m.without(t, r.gone...), m.root, api.NodeDir), false, r.want...)
	}
	for _, d := range m.all {
		s := m.s.Clone()
		harm(t, s, d, api.ErrBroken)
		wants(t, "P8.1: broken "+show([]api.Digest{d}), open(t, s, m.root, api.NodeDir), false, d)
		harm(t, s, d, api.ErrLack)
		wants(t, "P8.1: without "+show([]api.Digest{d}), open(t, s, m.root, api.NodeDir), false, d)
	}
}

// junk: bytes that are no right node's.
func junk(t *testing.T) []string {
	t.Helper()
	right := string(encode(t, dir(toFile("f", api.Digest{1}))))
	long := string(make([]byte, api.MaxBlob))
	return []string{"", "\x00", "\x01\x00", "\x02", "\x02\x01", "\x03", "\x03\x00\x00", "\x04\x00", "some text", right + "\x00", right[:len(right)-1], long}
}

// P8.1: a root that is there, and isn't a right node of that kind.
func TestNewFoul(t *testing.T) {
	m := newSample(t)
	for _, b := range junk(t) {
		d := put(t, m.s, []byte(b))
		wants(t, "P8.1: no node", open(t, m.s, d, api.NodeDir), true)
		wants(t, "P8.1: no node", open(t, m.s, d, api.NodeFile), true)
	}
	for _, d := range []api.Digest{m.root, m.a, m.x, add(t, m.s, dir())} {
		wants(t, "P8.1: no file", open(t, m.s, d, api.NodeFile), true)
	}
	for _, d := range []api.Digest{m.f, m.b, m.x, add(t, m.s, file())} {
		wants(t, "P8.1: no directory", open(t, m.s, d, api.NodeDir), true)
	}
}

// P8.1: something foul below the root keeps the carrier from nothing else.
func TestNewFoulBelow(t *testing.T) {
	m := newSample(t)
	s := m.without(t, m.x, m.z)
	text := put(t, s, []byte("some text"))
	for _, d := range []api.Digest{text, m.y, m.f} {
		root := add(t, s, dir(toDir("a", m.a), toDir("bad", d), toFile("z", m.b)))
		wants(t, "P8.1: foul as a directory", open(t, s, root, api.NodeDir), true, m.x, m.z)
	}
	for _, d := range []api.Digest{text, m.y, m.a} {
		root := add(t, s, dir(toDir("a", m.a), toFile("bad", d), toFile("z", m.b)))
		wants(t, "P8.1: foul as a file", open(t, s, root, api.NodeDir), true, m.x, m.z)
	}
	for _, d := range []api.Digest{text, m.g, m.a} {
		root := add(t, s, dir(toFile("a", add(t, s, file(m.x, d, m.z)))))
		wants(t, "P8.1: foul as a chunk", open(t, s, root, api.NodeDir), true, m.x, m.z)
	}
}

// P8.1: what comes into the store behind New, or goes out of it, without an offer.
func TestNewBehind(t *testing.T) {
	m := newSample(t)
	s := roomy()
	c := open(t, s, m.root, api.NodeDir)
	put(t, s, m.of(t, m.root))
	wants(t, "P8.1: the root came by itself", c, false, m.root)
	put(t, s, m.of(t, m.a))
	put(t, s, m.of(t, m.x))
	wants(t, "P8.1: others, too", c, false, m.root)
	takes(t, "P8.1: offered", c, s, m.of(t, m.root))
	wants(t, "P8.1: what came ahead of being looked at", c, false, m.f, m.g, m.b)
	for _, d := range m.all {
		put(t, s, m.of(t, d))
	}
	wants(t, "P8.1: all came by itself", c, false, m.f, m.g, m.b)
	takes(t, "P8.1", c, s, m.of(t, m.g))
	wants(t, "P8.1: its chunk is there", c, false, m.f, m.b)
	takes(t, "P8.1", c, s, m.of(t, m.b))
	takes(t, "P8.1", c, s, m.of(t, m.f))
	wants(t, "P8.1", c, false)
	for _, d := range m.all {
		harm(t, s, d, api.ErrLack)
	}
	wants(t, "P8.1: what was looked at went", c, false)
}

// P8.1: two carriers over one store know nothing of one another.
func TestNewTwice(t *testing.T) {
	m := newSample(t)
	s := roomy()
	first, second := open(t, s, m.root, api.NodeDir), open(t, s, m.root, api.NodeDir)
	for _, d := range m.all {
		takes(t, "P8.1", first, s, m.of(t, d))
		wants(t, "P8.1: the other one's", second, false, m.root)
	}
	wants(t, "P8.1", first, false)
	wants(t, "P8.1: a third one", open(t, s, m.root, api.NodeDir), false)
	takes(t, "P8.1", second, s, m.of(t, m.root))
	wants(t, "P8.1: the second finds the rest there", second, false)
}

// P8.2: how many are told.
func TestWantMost(t *testing.T) {
	m := newSample(t)
	c := open(t, m.without(t, m.x, m.g, m.z, m.y), m.root, api.NodeDir)
	all := []api.Digest{m.x, m.y, m.g, m.z}
	for most, count := range map[int]int{math.MinInt: 0, -1: 0, 0: 0, 1: 1, 2: 2, 3: 3, 4: 4, 5: 4, 1 << 20: 4, math.MaxInt: 4} {
		if got := c.Want(most); !slices.Equal(got, all[:count]) {
			t.Errorf("P8.2: Want(%d): %s; want %s", most, show(got), show(all[:count]))
		}
	}
	done := open(t, m.s, m.root, api.NodeDir)
	for _, most := range []int{-1, 0, 1, 2, math.MaxInt} {
		if got := done.Want(most); len(got) != 0 {
			t.Errorf("P8.2: Want(%d) of a carrier that is done: %s", most, show(got))
		}
	}
}

// P8.2: what comes to be wanted comes behind what is wanted already.
func TestWantOrder(t *testing.T) {
	m := newSample(t)
	s := roomy()
	c := open(t, s, m.root, api.NodeDir)
	for _, r := range []struct {
		offer api.Digest
		want  []api.Digest
	}{
		{m.root, []api.Digest{m.a, m.b}},
		{m.a, []api.Digest{m.b, m.f, m.g}},
		{m.f, []api.Digest{m.b, m.g, m.x, m.y}},
		{m.b, []api.Digest{m.g, m.x, m.y, m.z}},
		{m.y, []api.Digest{m.g, m.x, m.z}},
		{m.g, []api.Digest{m.x, m.z}},
		{m.z, []api.Digest{m.x}},
		{m.x, nil},
	} {
		takes(t, "P8.2", c, s, m.of(t, r.offer))
		wants(t, "P8.2: behind "+show([]api.Digest{r.offer}), c, false, r.want...)
	}
	if s.Count() != len(m.all) {
		t.Errorf("P8.6: %d blobs", s.Count())
	}
}

// P8.2: one blob at several places of a tree is wanted once, at the first of them.
func TestWantShared(t *testing.T) {
	m := newSample(t)
	s := m.holding(t, m.f, m.g)
	sub := add(t, s, dir(toFile("p", m.b), toFile("q", m.g)))
	root := add(t, s, dir(toDir("a", sub), toFile("b", m.f), toFile("c", m.b), toDir("d", sub), toFile("e", m.g)))
	c := open(t, s, root, api.NodeDir)
	wants(t, "P8.2", c, false, m.b, m.x, m.y)
	takes(t, "P8.2", c, s, m.of(t, m.b))
	wants(t, "P8.2: y is wanted already", c, false, m.x, m.y, m.z)
	takes(t, "P8.2", c, s, m.of(t, m.y))
	refuses(t, "P8.3: once is enough", c, s, m.of(t, m.y), api.ErrForeign)
	takes(t, "P8.2", c, s, m.of(t, m.x))
	takes(t, "P8.2", c, s, m.of(t, m.z))
	wants(t, "P8.2", c, false)
}

// P8.2: a digest that is wanted for two kinds, and for three, is told once: at its first place.
func TestWantTwoKinds(t *testing.T) {
	m := newSample(t)
	s := m.holding(t, m.g)
	c := open(t, s, add(t, s, dir(toDir("a", m.b), toFile("b", m.f), toFile("c", m.b), toFile("d", m.g), toFile("e", m.x))), api.NodeDir)
	wants(t, "P8.2", c, false, m.b, m.f, m.x)
	if got := c.Want(1); !slices.Equal(got, []api.Digest{m.b}) {
		t.Errorf("P8.2: Want(1): %s", show(got))
	}
	if got := c.Want(2); !slices.Equal(got, []api.Digest{m.b, m.f}) {
		t.Errorf("P8.2: Want(2): %s", show(got))
	}
	of := add(t, s, file(m.x, m.y))
	c = open(t, s, add(t, s, dir(toFile("a", of), toDir("b", m.y), toFile("c", m.x), toFile("d", m.z), toFile("e", m.y), toDir("f", m.x))), api.NodeDir)
	wants(t, "P8.2: three kinds", c, false, m.x, m.y, m.z)
}

// P8.2: a digest that was brought, went out of the store, and is wanted again as another kind, comes behind all.
func TestWantAgain(t *testing.T) {
	m := newSample(t)
	s := roomy()
	sub := encode(t, dir(toDir("p", m.g)))
	root := add(t, s, dir(toFile("a", m.b), toFile("b", m.g), toDir("c", sha.Sum(sub)), toFile("d", m.f)))
	c := open(t, s, root, api.NodeDir)
	wants(t, "P8.2", c, false, m.b, m.g, sha.Sum(sub), m.f)
	takes(t, "P8.2", c, s, m.of(t, m.g))
	wants(t, "P8.2", c, false, m.b, sha.Sum(sub), m.f, m.x)
	harm(t, s, m.g, api.ErrBroken)
	takes(t, "P8.2", c, s, sub)
	wants(t, "P8.2: wanted again", c, false, m.b, m.f, m.x, m.g)
	refuses(t, "P8.3: it was brought as a file", c, s, m.of(t, m.g), api.ErrForm)
}

// P8.2, P8.6: Want tells, and changes nothing.
func TestWantTells(t *testing.T) {
	m := newSample(t)
	s := m.without(t, m.x, m.z, m.g)
	c := open(t, s, m.root, api.NodeDir)
	before := told(c, s)
	for _, most := range []int{0, 1, 2, 3, 4, -1} {
		c.Want(most)
		c.Done()
		c.Foul()
	}
	if told(c, s) != before {
		t.Error("P8.2: asking has changed something")
	}
}

// P8.4: at the beginning, on the way, at the end; with a foul pair.
func TestDone(t *testing.T) {
	m := newSample(t)
	s := roomy()
	c := open(t, s, m.root, api.NodeDir)
	for _, d := range m.all {
		if c.Done() || c.Foul() {
			t.Errorf("P8.4: on the way: Done %t, Foul %t", c.Done(), c.Foul())
		}
		takes(t, "P8.4", c, s, m.of(t, d))
	}
	if !c.Done() || c.Foul() {
		t.Errorf("P8.4: at the end: Done %t, Foul %t", c.Done(), c.Foul())
	}
	s = m.holding(t, m.x)
	root := encode(t, dir(toFile("a", m.g), toFile("b", m.x)))
	c = open(t, s, sha.Sum(root), api.NodeDir)
	if c.Done() || c.Foul() {
		t.Errorf("P8.4: at the beginning: Done %t, Foul %t", c.Done(), c.Foul())
	}
	takes(t, "P8.4", c, s, root)
	if c.Done() || !c.Foul() {
		t.Errorf("P8.4: foul, and one is wanted: Done %t, Foul %t", c.Done(), c.Foul())
	}
	takes(t, "P8.4", c, s, m.of(t, m.g))
	if c.Done() || !c.Foul() || len(c.Want(9)) != 0 {
		t.Errorf("P8.4: foul, and none is wanted: Done %t, Foul %t", c.Done(), c.Foul())
	}
}

// P8.4: a nil carrier.
func TestNil(t *testing.T) {
	var c *carry.Carrier
	for _, most := range []int{math.MinInt, -1, 0, 1, math.MaxInt} {
		if got := c.Want(most); len(got) != 0 {
			t.Errorf("P8.4: Want(%d): %s", most, show(got))
		}
	}
	if c.Done() || c.Foul() {
		t.Errorf("P8.4: Done %t, Foul %t", c.Done(), c.Foul())
	}
	for _, b := range [][]byte{nil, {}, []byte("x"), encode(t, dir()), make([]byte, api.MaxBlob+1)} {
		if e := c.Offer(b); e != api.ErrNil {
			t.Errorf("P8.4: Offer: %d", e)
		}
	}
}

// Rule 3: what Want and Reach answered may be written over.
func TestAnswersAreNew(t *testing.T) {
	m := newSample(t)
	c := open(t, m.without(t, m.x, m.z), m.root, api.NodeDir)
	for range 3 {
		got := c.Want(9)
		again := c.Want(9)
		clear(got[:cap(got)])
		if !slices.Equal(again, []api.Digest{m.x, m.z}) {
			t.Errorf("rule 3: what Want answered is another one's: %s", show(again))
		}
		wants(t, "rule 3", c, false, m.x, m.z)
	}
	list, _ := carry.Reach(m.s, m.root, api.NodeDir)
	clear(list[:cap(list)])
	reaches(t, "rule 3", m.s, m.root, api.NodeDir, m.all...)
}
