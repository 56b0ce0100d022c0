package carry_test

import (
	"math"
	"math/rand"
	"slices"
	"strconv"
	"testing"

	"veneer/api"
	"veneer/blob"
	"veneer/carry"
	"veneer/node"
	"veneer/sha"
)

// couple: the chapter's pair.
type couple struct {
	d    api.Digest
	kind int
}

// model: a carrier, word by word as the chapter has it, over a store of its own.
type model struct {
	s                    *blob.Store
	looked, wanted, foul []couple
}

func (m *model) look(p couple) {
	if slices.Contains(m.looked, p) {
		return
	}
	m.looked = append(m.looked, p)
	b, e := m.s.Get(p.d)
	if e != api.OK {
		m.wanted = append(m.wanted, p)
	} else if n, e := node.Decode(b); e == api.OK && n.Kind == p.kind {
		m.lookAtKids(n)
	} else {
		m.foul = append(m.foul, p)
	}
}

func (m *model) lookAtKids(n api.Node) {
	for _, kid := range node.Kids(n) {
		m.look(couple{kid.Sum, kid.Kind})
	}
}

func (m *model) want() []api.Digest {
	var list []api.Digest
	for _, p := range m.wanted {
		if !slices.Contains(list, p.d) {
			list = append(list, p.d)
		}
	}
	return list
}

func (m *model) offer(b []byte) api.Errno {
	d := sha.Sum(b)
	var mine, rest []couple
	for _, p := range m.wanted {
		if p.d == d {
			mine = append(mine, p)
		} else {
			rest = append(rest, p)
		}
	}
	if len(mine) == 0 {
		return api.ErrForeign
	}
	n, e := node.Decode(b)
	if e != api.OK || !slices.Contains(mine, couple{d, n.Kind}) {
		return api.ErrForm
	}
	if _, e := m.s.Put(b); e != api.OK {
		return e
	}
	m.wanted = rest
	for _, p := range mine {
		if p.kind == n.Kind {
			m.lookAtKids(n)
		} else {
			m.foul = append(m.foul, p)
		}
	}
	return api.OK
}

// reach: word by word, too: the pairs in the order of a carrier that finds all there, till one is wrong.
func reach(s *blob.Store, root couple) ([]api.Digest, api.Errno) {
	var looked []couple
	var list []api.Digest
	var look func(p couple) api.Errno
	look = func(p couple) api.Errno {
		if slices.Contains(looked, p) {
			return api.OK
		}
		looked = append(looked, p)
		b, e := s.Get(p.d)
		if e != api.OK {
			return e
		}
		n, e := node.Decode(b)
		if e != api.OK || n.Kind != p.kind {
			return api.ErrForm
		}
		if !slices.Contains(list, p.d) {
			list = append(list, p.d)
		}
		for _, kid := range node.Kids(n) {
			if e := look(couple{kid.Sum, kid.Kind}); e != api.OK {
				return e
			}
		}
		return api.OK
	}
	if e := look(root); e != api.OK {
		return nil, e
	}
	return list, api.OK
}

// forest is blobs that name one another, the later ones the earlier ones; the last is a directory.
type forest struct {
	blobs [][]byte
	nodes []api.Node
}

// kid: a blob of that kind, if there is one; sometimes, if it is to be odd, of any kind, or none that there is.
func (f *forest) kid(r *rand.Rand, kind, odd int) (api.Digest, bool) {
	if r.Intn(100) < odd {
		if r.Intn(3) == 0 {
			return api.Digest{byte(r.Intn(3))}, true
		}
		return sha.Sum(f.blobs[r.Intn(len(f.blobs))]), true
	}
	for range 8 {
		i := r.Intn(len(f.nodes))
		if f.nodes[i].Kind == kind {
			return sha.Sum(f.blobs[i]), true
		}
	}
	return api.Digest{}, false
}

// grow: one node more.
func (f *forest) grow(t *testing.T, r *rand.Rand, kind, odd int) {
	t.Helper()
	n := chunk(strconv.Itoa(len(f.blobs)))
	switch kind {
	case api.NodeFile:
		var parts []api.Digest
		for range r.Intn(5) {
			if d, ok := f.kid(r, api.NodeChunk, odd); ok {
				parts = append(parts, d)
			}
		}
		n = file(parts...)
	case api.NodeDir:
		n = dir()
		for i := range r.Intn(5) {
			below := api.NodeFile + r.Intn(2)
			if d, ok := f.kid(r, below, odd); ok {
				n.Items = append(n.Items, api.Item{Name: strconv.Itoa(i), Kind: below, Sum: d})
			}
		}
	}
	f.blobs = append(f.blobs, encode(t, n))
	f.nodes = append(f.nodes, n)
}

// plant: a forest of chance, the odder the greater odd is: 0 makes right trees alone.
func plant(t *testing.T, r *rand.Rand, odd int) *forest {
	t.Helper()
	f := &forest{}
	f.grow(t, r, api.NodeChunk, 0)
	for range 5 + r.Intn(25) {
		f.grow(t, r, api.NodeChunk+r.Intn(3), odd)
	}
	for range 3 {
		f.grow(t, r, api.NodeDir, odd)
	}
	if odd > 0 { // bytes that are no node, and one more that may name them
		f.blobs = append(f.blobs, []byte("some text"))
		f.nodes = append(f.nodes, api.Node{})
		f.grow(t, r, api.NodeDir, 2*odd)
	}
	return f
}

// root: the last node, or any blob at all as any kind.
func (f *forest) root(r *rand.Rand, odd int) couple {
	if r.Intn(100) < odd {
		return couple{sha.Sum(f.blobs[r.Intn(len(f.blobs))]), api.NodeFile + r.Intn(2)}
	}
	return couple{sha.Sum(f.blobs[len(f.blobs)-1]), api.NodeDir}
}

// scatter: some of a forest's blobs are in a store, some of these broken.
func (f *forest) scatter(r *rand.Rand, s *blob.Store) {
	share := r.Intn(101)
	for _, b := range f.blobs {
		if r.Intn(100) < share {
			d, e := s.Put(b)
			if e == api.OK && r.Intn(6) == 0 {
				s.Spoil(d, 0, 1)
			}
		}
	}
}

// meddle: something happens to both stores behind the carrier.
func (f *forest) meddle(r *rand.Rand, a, b *blob.Store) {
	i := r.Intn(len(f.blobs))
	for _, s := range []*blob.Store{a, b} {
		switch d := sha.Sum(f.blobs[i]); i % 3 {
		case 0:
			s.Drop(d)
		case 1:
			s.Spoil(d, 0, 1)
		case 2:
			s.Put(f.blobs[i])
		}
	}
}

// agree: the carrier must be as the model is.
func agree(t *testing.T, what string, c *carry.Carrier, s *blob.Store, m *model) {
	t.Helper()
	wants(t, what, c, len(m.foul) > 0, m.want()...)
	if stored(s) != stored(m.s) {
		t.Errorf("%s: the store isn't the model's", what)
	}
}

// P8.1 to P8.4: carriers of chance, over stores with little room, that others put into and take out of.
func TestModel(t *testing.T) {
	codes := map[api.Errno]int{}
	for seed := range int64(400) {
		r := rand.New(rand.NewSource(seed))
		odd := r.Intn(3) * 12
		f := plant(t, r, odd)
		s := blob.New(200 + r.Intn(4000))
		f.scatter(r, s)
		m := &model{s: s.Clone()}
		root := f.root(r, odd)
		c := open(t, s, root.d, root.kind)
		m.look(root)
		what := "seed " + strconv.FormatInt(seed, 10)
		agree(t, what, c, s, m)
		for range 60 {
			b := f.blobs[r.Intn(len(f.blobs))]
			if w := c.Want(1 + r.Intn(4)); len(w) > 0 && r.Intn(3) > 0 {
				b = f.bytes(w[r.Intn(len(w))])
			}
			e := c.Offer(b)
			codes[e]++
			if want := m.offer(b); e != want {
				t.Errorf("%s: Offer: %d, want %d", what, e, want)
			}
			agree(t, what, c, s, m)
			if odd > 0 && r.Intn(4) == 0 {
				f.meddle(r, s, m.s)
				agree(t, what, c, s, m)
			}
		}
		if t.Failed() {
			return
		}
	}
	for _, e := range []api.Errno{api.OK, api.ErrForeign, api.ErrForm, api.ErrFull} {
		if codes[e] < 50 {
			t.Errorf("chance has made error %d %d times alone", e, codes[e])
		}
	}
}

// bytes: those of a digest; some others, if it isn't the forest's.
func (f *forest) bytes(d api.Digest) []byte {
	for _, b := range f.blobs {
		if sha.Sum(b) == d {
			return b
		}
	}
	return []byte("other")
}

// P8.5: Reach of chance.
func TestReachModel(t *testing.T) {
	codes := map[api.Errno]int{}
	for seed := range int64(3000) {
		r := rand.New(rand.NewSource(seed))
		odd := r.Intn(3) * 12
		f := plant(t, r, odd)
		s := roomy()
		for _, b := range f.blobs {
			put(t, s, b)
		}
		for range r.Intn(3) {
			f.meddle(r, s, roomy())
		}
		root := f.root(r, odd)
		want, e := reach(s, root)
		codes[e]++
		got, code := carry.Reach(s, root.d, root.kind)
		if code != e || !slices.Equal(got, want) {
			t.Fatalf("P8.5: seed %d: %s, %d; want %s, %d", seed, show(got), code, show(want), e)
		}
	}
	for _, e := range []api.Errno{api.OK, api.ErrLack, api.ErrBroken, api.ErrForm} {
		if codes[e] < 50 {
			t.Errorf("chance has made error %d %d times alone", e, codes[e])
		}
	}
}

// bring: all that is wanted is offered, some at a time, in an order of chance, strangers between; how many offers it took.
func bring(t *testing.T, r *rand.Rand, c *carry.Carrier, from, to *blob.Store) int {
	t.Helper()
	all := slices.Collect(from.All())
	count, most := 0, []int{1, 2, 5, math.MaxInt}[r.Intn(4)]
	for len(c.Want(1)) > 0 && count <= len(all) {
		list := c.Want(most)
		r.Shuffle(len(list), func(i, j int) { list[i], list[j] = list[j], list[i] })
		for _, d := range list {
			if other := all[r.Intn(len(all))]; !slices.Contains(c.Want(math.MaxInt), other) {
				refuses(t, "P8.6: a stranger", c, to, get(t, from, other), api.ErrForeign)
			}
			takes(t, "P8.6", c, to, get(t, from, d))
			count++
		}
	}
	return count
}

// P8.6: trees of chance brought into stores that have nothing, or something, of them.
func TestBring(t *testing.T) {
	for seed := range int64(300) {
		r := rand.New(rand.NewSource(seed))
		f := plant(t, r, 0)
		from, to := roomy(), roomy()
		for _, b := range f.blobs {
			put(t, from, b)
		}
		if r.Intn(2) == 0 {
			f.scatter(r, to)
		}
		root := f.root(r, 0)
		whole, e := carry.Reach(from, root.d, root.kind)
		if e != api.OK {
			t.Fatalf("P8.5: seed %d: %d", seed, e)
		}
		lacking := 0
		for _, d := range whole {
			if _, e := to.Get(d); e != api.OK {
				lacking++
			}
		}
		c := open(t, to, root.d, root.kind)
		if count := bring(t, r, c, from, to); count != lacking {
			t.Errorf("P8.6: seed %d: %d offers, want %d", seed, count, lacking)
		}
		wants(t, "P8.6", c, false)
		reaches(t, "P8.6", to, root.d, root.kind, whole...)
		if t.Failed() {
			t.Fatalf("seed %d", seed)
		}
	}
}

// P8.6: a tree that Build made is the same tree when it was brought; so is one file of it.
func TestBringBuilt(t *testing.T) {
	r := rand.New(rand.NewSource(1))
	from := roomy()
	long := make([]byte, api.MaxFile)
	for i := range long {
		long[i] = byte(i / api.ChunkLen)
	}
	root := build(t, from, api.File{Path: "/a", Dir: true}, api.File{Path: "/a/long", Data: string(long)}, api.File{Path: "/a/none"}, api.File{Path: "/b", Dir: true}, api.File{Path: "/c", Data: "hi"})
	to := roomy()
	c := open(t, to, root, api.NodeDir)
	bring(t, r, c, from, to)
	wants(t, "P8.6", c, false)
	if stored(to) != stored(from) {
		t.Error("P8.6: the tree's blobs aren't those of the store it came from")
	}
	whole, e := carry.Reach(from, root, api.NodeDir)
	if e != api.OK || len(whole) != from.Count() {
		t.Errorf("P8.5: %d digests, %d; want %d", len(whole), e, from.Count())
	}
	reaches(t, "P8.6", to, root, api.NodeDir, whole...)
}

// P8.6: many blobs, thousands of them wanted at once.
func TestBringMany(t *testing.T) {
	from := roomy()
	var above []api.Item
	for i := range 64 {
		var items []api.Item
		for j := range 64 {
			name := strconv.Itoa(100 + j)
			items = append(items, toFile(name, add(t, from, file(add(t, from, chunk(name)), add(t, from, chunk(strconv.Itoa(i)+","+name))))))
		}
		above = append(above, toDir(strconv.Itoa(100+i), add(t, from, dir(items...))))
	}
	root := add(t, from, dir(above...))
	for _, most := range []int{1, math.MaxInt} {
		to := roomy()
		c := open(t, to, root, api.NodeDir)
		for !c.Done() {
			for _, d := range c.Want(most) {
				if e := c.Offer(get(t, from, d)); e != api.OK {
					t.Fatalf("P8.6: Offer: %d", e)
				}
			}
		}
		if to.Count() != from.Count() {
			t.Errorf("P8.6: %d blobs, want %d", to.Count(), from.Count())
		}
	}
}
