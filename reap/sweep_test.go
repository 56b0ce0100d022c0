package reap_test

import (
	"math/rand"
	"slices"
	"testing"

	"veneer/api"
	"veneer/blob"
	"veneer/carry"
	"veneer/reap"
	"veneer/tree"
)

// P9.2, P9.3: what hangs on no root goes: broken blobs, ones that are no nodes, ones that hang on others that go.
func TestSweep(t *testing.T) {
	m := newSample(t)
	before := stored(m.s)
	for _, c := range m.choices() {
		leaves(t, "P9.2: "+c.what, m.s.Clone(), c.items, c.want...)
	}
	if stored(m.s) != before {
		t.Errorf("P9.2: Sweep of a clone has changed the store: %d blobs", m.s.Count())
	}
}

// P9.2: how many go, in plain numbers.
func TestHowMany(t *testing.T) {
	m := newSample(t)
	for _, r := range []struct {
		items []api.Item
		gone  int
	}{
		{roots(dirAt("", m.one), dirAt("", m.two)), 4},
		{roots(dirAt("", m.one)), 3},
		{roots(dirAt("", m.one)), 0},
		{roots(dirAt("", m.a), fileAt("", m.b)), 1},
		{roots(fileAt("", m.b)), 4},
		{nil, 3},
		{nil, 0},
	} {
		if n, e := reap.Sweep(m.s, r.items); n != r.gone || e != api.OK {
			t.Errorf("P9.2: Sweep(%v): %d, %d; want %d", r.items, n, e, r.gone)
		}
	}
	if m.s.Count() != 0 || m.s.Bytes() != 0 {
		t.Errorf("P9.3: %d blobs, %d bytes", m.s.Count(), m.s.Bytes())
	}
}

// P9.2: a store without blobs; P9.3: without roots all goes, whole or not, nodes or not.
func TestNothing(t *testing.T) {
	leaves(t, "P9.2: no blobs", roomy(), nil)
	leaves(t, "P9.2: no blobs", roomy(), roots())
	refuses(t, "P9.2: no blobs, a root", roomy(), roots(dirAt("", api.Digest{})), api.ErrLack)
	m := newSample(t)
	for _, d := range m.ofTwo {
		spoil(t, m.s, d)
	}
	leaves(t, "P9.3: no roots", m.s, nil)
	for _, d := range slices.Concat(m.ofOne, m.ofTwo, m.beside) {
		if m.s.Has(d) {
			t.Errorf("P9.3: %s is there", show([]api.Digest{d}))
		}
	}
}

// P9.2: each blob of a tree broken or missing in its turn: behind the error all is as it was, and can be mended.
func TestSweepHarmed(t *testing.T) {
	m := newSample(t)
	items := roots(fileAt("", m.h), dirAt("", m.one))
	for _, d := range m.ofOne {
		s := m.s.Clone()
		spoil(t, s, d)
		refuses(t, "P9.2: broken", s, items, api.ErrBroken)
		spoil(t, s, d)
		if stored(s) != stored(m.s) {
			t.Error("P9.2: a broken blob's bytes have changed behind the error")
		}
		drop(t, s, d)
		refuses(t, "P9.2: missing", s, items, api.ErrLack)
		put(t, s, get(t, m.s, d))
		leaves(t, "P9.2: mended", s, items, append([]api.Digest{m.h, m.w}, m.ofOne...)...)
	}
}

// P9.2: a blob that is broken and hangs on a root that isn't told goes, too; one that is told without it stays.
func TestSweepBroken(t *testing.T) {
	m := newSample(t)
	spoil(t, m.s, m.h)
	spoil(t, m.s, m.two)
	refuses(t, "P9.2: it hangs on a root", m.s, roots(dirAt("", m.one), fileAt("", m.h)), api.ErrBroken)
	leaves(t, "P9.2: it hangs on none", m.s, roots(dirAt("", m.one)), m.ofOne...)
}

// P9.2: what goes makes room: just as much as it had.
func TestSweepMakesRoom(t *testing.T) {
	from := roomy()
	root := build(t, from, api.File{Path: "/f", Data: "hi"})
	s := blob.New(from.Bytes() + 10)
	for d := range from.All() {
		put(t, s, get(t, from, d))
	}
	put(t, s, []byte("0123456789"))
	if _, e := s.Put([]byte("x")); e != api.ErrFull {
		t.Fatalf("Put: %d", e)
	}
	leaves(t, "P9.2", s, roots(dirAt("", root)), slices.Collect(from.All())...)
	put(t, s, []byte("abcdefghij"))
	if _, e := s.Put([]byte("x")); e != api.ErrFull {
		t.Errorf("P9.2: there is more room than what went had: %d", e)
	}
}

// P9.3: each root has what it had: the same blobs in the same order, the same tree.
func TestRootsHaveTheirs(t *testing.T) {
	s := roomy()
	lists := [][]api.File{
		{{Path: "/a", Dir: true}, {Path: "/a/f", Data: "hi"}, {Path: "/b"}},
		{{Path: "/a", Dir: true}, {Path: "/a/f", Data: "hi"}, {Path: "/c", Data: "other"}},
		{{Path: "/z", Dir: true}, {Path: "/z/y", Dir: true}, {Path: "/z/y/x", Data: string(make([]byte, 300))}},
	}
	var items []api.Item
	var reached [][]api.Digest
	for _, list := range lists {
		items = append(items, dirAt("", build(t, s, list...)))
	}
	for _, item := range items {
		list, e := carry.Reach(s, item.Sum, item.Kind)
		if e != api.OK {
			t.Fatalf("Reach: %d", e)
		}
		reached = append(reached, list)
	}
	for left := len(items); left >= 0; left-- {
		leaves(t, "P9.3", s, items[:left], slices.Concat(reached[:left]...)...)
		for i, item := range items {
			list, e := tree.Walk(s, item.Sum)
			again, _ := carry.Reach(s, item.Sum, item.Kind)
			if i < left && (e != api.OK || !slices.Equal(list, lists[i]) || !slices.Equal(again, reached[i])) {
				t.Errorf("P9.3: %d roots: root %d has %v, %d", left, i, list, e)
			}
			if i >= left && e != api.ErrLack {
				t.Errorf("P9.2: %d roots: root %d is there: %d", left, i, e)
			}
		}
	}
}

// The chapter's examples.
func TestExamples(t *testing.T) {
	s := roomy()
	one := build(t, s, api.File{Path: "/f", Data: "hi"})
	only := slices.Collect(s.All())
	two := build(t, s, api.File{Path: "/g", Data: "ho"})
	refuses(t, "the example: a root that isn't there", s, roots(dirAt("", api.Digest{})), api.ErrLack)
	if n, e := reap.Sweep(s.Clone(), roots(dirAt("", one))); n != 3 || e != api.OK {
		t.Errorf("the example: %d, %d", n, e)
	}
	leaves(t, "the example", s, roots(dirAt("", one)), only...)
	refuses(t, "the example: a root that went", s, roots(dirAt("", one), dirAt("", two)), api.ErrLack)
	if list, e := tree.Walk(s, one); e != api.OK || len(list) != 1 || list[0] != (api.File{Path: "/f", Data: "hi"}) {
		t.Errorf("the example: %v, %d", list, e)
	}
}

// grow: nodes of chance, the later ones naming earlier ones, some of them wrongly; what they are called as roots.
func grow(t *testing.T, r *rand.Rand, s *blob.Store) []api.Item {
	t.Helper()
	odd := r.Intn(2) == 0
	byKind := map[int][]api.Digest{}
	pick := func(kind int) api.Digest {
		if odd && r.Intn(25) == 0 {
			kind = api.NodeChunk + r.Intn(3)
		}
		if list := byKind[kind]; len(list) > 0 {
			return list[r.Intn(len(list))]
		}
		return api.Digest{byte(r.Intn(3))}
	}
	var items []api.Item
	for i, end := 0, 10+r.Intn(40); i < end; i++ {
		kind, n := api.NodeChunk, chunk(string([]byte{byte(i)}))
		if i > 3 && i%2 == 0 {
			kind, n = api.NodeFile, file(pick(api.NodeChunk), pick(api.NodeChunk))
		} else if i > 6 {
			kind, n = api.NodeDir, dir(fileAt("a", pick(api.NodeFile)), fileAt("b", pick(api.NodeFile)))
			if len(byKind[kind]) > 0 {
				n.Items = append(n.Items, dirAt("c", pick(kind)))
			}
		}
		d := add(t, s, n)
		byKind[kind] = append(byKind[kind], d)
		items = append(items, api.Item{Name: string([]byte{byte(r.Intn(3))}), Kind: kind, Sum: d})
	}
	return items
}

// some: roots of chance, most of them right ones.
func some(r *rand.Rand, items []api.Item) []api.Item {
	var list []api.Item
	for range r.Intn(6) {
		item := items[r.Intn(len(items))]
		for item.Kind == api.NodeChunk && r.Intn(40) > 0 {
			item = items[r.Intn(len(items))]
		}
		if r.Intn(60) == 0 {
			item.Kind = r.Intn(5)
		}
		list = append(list, item)
	}
	return list
}

// plainMark: what P9.1 says, word by word.
func plainMark(s *blob.Store, items []api.Item) ([]api.Digest, api.Errno) {
	var all []api.Digest
	for _, item := range items {
		list, e := carry.Reach(s, item.Sum, item.Kind)
		if e != api.OK {
			return nil, e
		}
		all = append(all, list...)
	}
	return rising(all...), api.OK
}

// P9.1 to P9.3: stores and roots of chance, swept by and by.
func TestChance(t *testing.T) {
	codes := map[api.Errno]int{}
	for seed := range int64(600) {
		r := rand.New(rand.NewSource(seed))
		s := roomy()
		items := grow(t, r, s)
		for range r.Intn(4) {
			d := items[r.Intn(len(items))].Sum
			if r.Intn(3) == 0 {
				s.Drop(d)
			} else {
				s.Spoil(d, 0, 1)
			}
		}
		for range 4 {
			chosen := some(r, items)
			want, e := plainMark(s, chosen)
			codes[e]++
			if e != api.OK {
				refuses(t, "chance", s, chosen, e)
				continue
			}
			marks(t, "chance", s, chosen, want...)
			leaves(t, "chance", s, chosen, want...)
		}
		if t.Failed() {
			t.Fatalf("seed %d", seed)
		}
	}
	for _, e := range []api.Errno{api.OK, api.ErrKind, api.ErrLack, api.ErrBroken, api.ErrForm} {
		if codes[e] < 20 {
			t.Errorf("chance has made error %d %d times alone", e, codes[e])
		}
	}
}
