package reap_test

import (
	"bytes"
	"fmt"
	"math"
	"slices"
	"strings"
	"testing"

	"veneer/api"
	"veneer/blob"
	"veneer/node"
	"veneer/reap"
	"veneer/sha"
	"veneer/tree"
)

// roomy: a store that has room for all that a test puts.
func roomy() *blob.Store { return blob.New(1 << 26) }

// put: bytes are in the store.
func put(t *testing.T, s *blob.Store, b []byte) api.Digest {
	t.Helper()
	d, e := s.Put(b)
	if e != api.OK {
		t.Fatalf("Put: %d", e)
	}
	return d
}

// add: a right node's blob is in the store.
func add(t *testing.T, s *blob.Store, n api.Node) api.Digest {
	t.Helper()
	b, e := node.Encode(n)
	if e != api.OK {
		t.Fatalf("a node that isn't right: %v", n)
	}
	return put(t, s, b)
}

// get: the bytes of a blob that is there.
func get(t *testing.T, s *blob.Store, d api.Digest) []byte {
	t.Helper()
	b, e := s.Get(d)
	if e != api.OK {
		t.Fatalf("Get: %d", e)
	}
	return b
}

// spoil: a blob that is there is broken; spoilt a second time it is whole again.
func spoil(t *testing.T, s *blob.Store, d api.Digest) {
	t.Helper()
	if e := s.Spoil(d, 0, 1); e != api.OK {
		t.Fatalf("Spoil: %d", e)
	}
}

// drop: a blob that is there is there no more.
func drop(t *testing.T, s *blob.Store, d api.Digest) {
	t.Helper()
	if e := s.Drop(d); e != api.OK {
		t.Fatalf("Drop: %d", e)
	}
}

// build: the root of a tree of paths.
func build(t *testing.T, s *blob.Store, list ...api.File) api.Digest {
	t.Helper()
	root, e := tree.Build(s, list)
	if e != api.OK {
		t.Fatalf("Build: %d", e)
	}
	return root
}

// chunk, file, dir: nodes of each kind.
func chunk(data string) api.Node { return api.Node{Kind: api.NodeChunk, Data: data} }

// file: one whose pieces are these; the last one is taken to be of one byte.
func file(parts ...api.Digest) api.Node {
	n := api.Node{Kind: api.NodeFile, Parts: parts}
	if len(parts) > 0 {
		n.Size = (len(parts)-1)*api.ChunkLen + 1
	}
	return n
}

func dir(items ...api.Item) api.Node { return api.Node{Kind: api.NodeDir, Items: items} }

// fileAt, dirAt: items, which are roots, too.
func fileAt(name string, d api.Digest) api.Item {
	return api.Item{Name: name, Kind: api.NodeFile, Sum: d}
}

func dirAt(name string, d api.Digest) api.Item {
	return api.Item{Name: name, Kind: api.NodeDir, Sum: d}
}

// roots: a list of items, shorter to write.
func roots(items ...api.Item) []api.Item { return items }

// kinds: those that can be no root's.
func kinds() []int {
	return []int{api.NodeChunk, 0, 4, -1, -2, -3, math.MinInt, math.MaxInt, 1<<32 + api.NodeDir}
}

// rising: digests in their order, each once.
func rising(digests ...api.Digest) []api.Digest {
	list := slices.Clone(digests)
	slices.SortFunc(list, func(a, b api.Digest) int { return bytes.Compare(a[:], b[:]) })
	return slices.Compact(list)
}

// show: the first digits of each digest.
func show(list []api.Digest) string {
	var b strings.Builder
	for _, d := range list[:min(len(list), 20)] {
		b.WriteString(" " + sha.Hex(d)[:8])
	}
	return fmt.Sprintf("%d:%s", len(list), b.String())
}

// stored: all that can be told of a store.
func stored(s *blob.Store) string {
	var b strings.Builder
	fmt.Fprintf(&b, "%d blobs, %d bytes\n", s.Count(), s.Bytes())
	for d := range s.All() {
		bytes, e := s.Get(d)
		fmt.Fprintf(&b, "%x %x %d %t\n", d, bytes, e, s.Has(d))
	}
	return b.String()
}

// marks: Mark must tell these digests, rising, each once, and leave the store as it is.
func marks(t *testing.T, what string, s *blob.Store, items []api.Item, want ...api.Digest) {
	t.Helper()
	before := stored(s)
	list, e := reap.Mark(s, items)
	if e != api.OK || !slices.Equal(list, rising(want...)) {
		t.Errorf("%s: Mark: %s, %d; want %s", what, show(list), e, show(rising(want...)))
	}
	if stored(s) != before {
		t.Errorf("%s: Mark has changed the store", what)
	}
}

// refuses: Mark and Sweep must answer this error, nothing beside it, and change nothing.
func refuses(t *testing.T, what string, s *blob.Store, items []api.Item, want api.Errno) {
	t.Helper()
	before := stored(s)
	if list, e := reap.Mark(s, items); e != want || len(list) != 0 {
		t.Errorf("%s: Mark: %s, %d; want %d alone", what, show(list), e, want)
	}
	if stored(s) != before {
		t.Errorf("%s: Mark has changed the store", what)
	}
	if n, e := reap.Sweep(s, items); n != 0 || e != want {
		t.Errorf("%s: Sweep: %d, %d; want %d alone", what, n, e, want)
	}
	if stored(s) != before {
		t.Errorf("%s: behind error %d Sweep has changed the store", what, want)
	}
}

// leaves: Sweep must leave just these blobs, each as it was, and tell how many others there were; another Sweep takes nothing.
func leaves(t *testing.T, what string, s *blob.Store, items []api.Item, want ...api.Digest) {
	t.Helper()
	old := s.Clone()
	want = rising(want...)
	gone, total := s.Count()-len(want), 0
	if n, e := reap.Sweep(s, items); n != gone || e != api.OK {
		t.Errorf("%s: Sweep: %d, %d; want %d", what, n, e, gone)
	}
	for _, d := range want {
		b, e := s.Get(d)
		if e != api.OK || !bytes.Equal(b, get(t, old, d)) {
			t.Errorf("%s: behind Sweep %s: %x, %d", what, show([]api.Digest{d}), b, e)
		}
		total += len(b)
	}
	if left := slices.Collect(s.All()); !slices.Equal(left, want) || s.Count() != len(want) || s.Bytes() != total {
		t.Errorf("%s: behind Sweep: %s, %d blobs of %d bytes; want %s", what, show(left), s.Count(), s.Bytes(), show(want))
	}
	marks(t, what+", behind Sweep", s, items, want...)
	before := stored(s)
	if n, e := reap.Sweep(s, items); n != 0 || e != api.OK || stored(s) != before {
		t.Errorf("%s: a second Sweep: %d, %d", what, n, e)
	}
}

// sample is two trees by their parts, that share some, and blobs that hang on neither:
//
//	one: a (a directory: f (a file: x, y), g (a file: x)), b (a file: y, z, y), c (the directory a again)
//	two: a (the directory a), h (a file: w)
//	beside them: text (no node), empty (no bytes), lone (a chunk), broken (a directory that names one, but its bytes are others)
type sample struct {
	s                              *blob.Store
	one, two, a, f, g, b, h        api.Digest
	x, y, z, w                     api.Digest
	text, empty, lone, broken      api.Digest
	ofA, ofB, ofOne, ofTwo, beside []api.Digest
}

// newSample: all of it in a store of its own.
func newSample(t *testing.T) sample {
	t.Helper()
	s := roomy()
	m := sample{s: s}
	m.x, m.y, m.z, m.w = add(t, s, chunk("x")), add(t, s, chunk("y")), add(t, s, chunk("z")), add(t, s, chunk("w"))
	m.f, m.g, m.b, m.h = add(t, s, file(m.x, m.y)), add(t, s, file(m.x)), add(t, s, file(m.y, m.z, m.y)), add(t, s, file(m.w))
	m.a = add(t, s, dir(fileAt("f", m.f), fileAt("g", m.g)))
	m.one = add(t, s, dir(dirAt("a", m.a), fileAt("b", m.b), dirAt("c", m.a)))
	m.two = add(t, s, dir(dirAt("a", m.a), fileAt("h", m.h)))
	m.text, m.empty, m.lone = put(t, s, []byte("some text")), put(t, s, nil), add(t, s, chunk("lone"))
	m.broken = add(t, s, dir(dirAt("one", m.one)))
	spoil(t, s, m.broken)
	m.ofA = []api.Digest{m.a, m.f, m.g, m.x, m.y}
	m.ofB = []api.Digest{m.b, m.y, m.z}
	m.ofOne = append([]api.Digest{m.one, m.b, m.z}, m.ofA...)
	m.ofTwo = append([]api.Digest{m.two, m.h, m.w}, m.ofA...)
	m.beside = []api.Digest{m.text, m.empty, m.lone, m.broken}
	return m
}

// choice is roots, and what hangs on them.
type choice struct {
	what  string
	items []api.Item
	want  []api.Digest
}

// choices: none, one, several that share blobs or don't, some told twice; in this order and in others.
func (m sample) choices() []choice {
	one, two, a, f, b := dirAt("", m.one), dirAt("", m.two), dirAt("", m.a), fileAt("", m.f), fileAt("", m.b)
	both := slices.Concat(m.ofOne, m.ofTwo)
	return []choice{
		{"nil", nil, nil},
		{"no roots", roots(), nil},
		{"one", roots(one), m.ofOne},
		{"two", roots(two), m.ofTwo},
		{"a directory within", roots(a), m.ofA},
		{"a file", roots(f), []api.Digest{m.f, m.x, m.y}},
		{"a file with one chunk twice", roots(b), m.ofB},
		{"both", roots(one, two), both},
		{"both, the other way round", roots(two, one), both},
		{"one twice", roots(one, one), m.ofOne},
		{"one, two, one", roots(one, two, one), both},
		{"a tree and what is in it", roots(one, a, f, b), m.ofOne},
		{"what is in a tree, and it", roots(b, f, a, one), m.ofOne},
		{"two files that share a chunk", roots(b, f), []api.Digest{m.b, m.f, m.x, m.y, m.z}},
		{"two that share none", roots(b, fileAt("", m.h)), []api.Digest{m.b, m.y, m.z, m.h, m.w}},
		{"many times", slices.Repeat(roots(f, two, b), 50), slices.Concat(m.ofTwo, m.ofB)},
	}
}

// fault is a root with an error.
type fault struct {
	item api.Item
	e    api.Errno
}

// faults: roots that are missing, broken, not of that kind, no node, of a kind that can be no root's; some have it below themselves.
func (m sample) faults(t *testing.T) []fault {
	t.Helper()
	below := func(item api.Item) api.Item {
		return dirAt("", add(t, m.s, dir(dirAt("a", m.a), item, dirAt("z", m.one))))
	}
	list := []fault{
		{fileAt("", api.Digest{1}), api.ErrLack}, {dirAt("", api.Digest{}), api.ErrLack},
		{below(fileAt("b", api.Digest{2})), api.ErrLack}, {fileAt("", add(t, m.s, file(m.x, api.Digest{3}))), api.ErrLack},
		{fileAt("", m.broken), api.ErrBroken}, {dirAt("", m.broken), api.ErrBroken},
		{below(dirAt("b", m.broken)), api.ErrBroken}, {fileAt("", add(t, m.s, file(m.x, m.broken))), api.ErrBroken},
		{fileAt("", m.one), api.ErrForm}, {dirAt("", m.f), api.ErrForm}, {fileAt("", m.x), api.ErrForm}, {dirAt("", m.x), api.ErrForm},
		{fileAt("", m.text), api.ErrForm}, {dirAt("", m.text), api.ErrForm}, {dirAt("", m.empty), api.ErrForm},
		{below(fileAt("b", m.a)), api.ErrForm}, {fileAt("", add(t, m.s, file(m.f))), api.ErrForm},
	}
	for _, kind := range kinds() {
		for _, d := range []api.Digest{m.one, m.x, {1}} {
			list = append(list, fault{api.Item{Kind: kind, Sum: d}, api.ErrKind})
		}
	}
	return list
}
