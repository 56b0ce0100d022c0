package carry_test

import (
	"fmt"
	"math"
	"slices"
	"strings"
	"testing"

	"veneer/api"
	"veneer/blob"
	"veneer/carry"
	"veneer/node"
	"veneer/sha"
	"veneer/tree"
)

// roomy: a store that has room for all that a test puts.
func roomy() *blob.Store { return blob.New(1 << 26) }

// encode: a right node's bytes.
func encode(t *testing.T, n api.Node) []byte {
	t.Helper()
	b, e := node.Encode(n)
	if e != api.OK {
		t.Fatalf("a node that isn't right: %v", n)
	}
	return b
}

// put: bytes are in the store.
func put(t *testing.T, s *blob.Store, b []byte) api.Digest {
	t.Helper()
	d, e := s.Put(b)
	if e != api.OK {
		t.Fatalf("Put: %d", e)
	}
	return d
}

// add: a right node's blob is in the store.
func add(t *testing.T, s *blob.Store, n api.Node) api.Digest {
	t.Helper()
	return put(t, s, encode(t, n))
}

// get: a blob that is there.
func get(t *testing.T, s *blob.Store, d api.Digest) []byte {
	t.Helper()
	b, e := s.Get(d)
	if e != api.OK {
		t.Fatalf("Get: %d", e)
	}
	return b
}

// chunk, file, dir: nodes of each kind.
func chunk(data string) api.Node { return api.Node{Kind: api.NodeChunk, Data: data} }

// file: one whose pieces are these; the last one is taken to be of one byte.
func file(parts ...api.Digest) api.Node {
	n := api.Node{Kind: api.NodeFile, Parts: parts}
	if len(parts) > 0 {
		n.Size = (len(parts)-1)*api.ChunkLen + 1
	}
	return n
}

func dir(items ...api.Item) api.Node { return api.Node{Kind: api.NodeDir, Items: items} }

// toFile, toDir: items of a directory.
func toFile(name string, d api.Digest) api.Item {
	return api.Item{Name: name, Kind: api.NodeFile, Sum: d}
}

func toDir(name string, d api.Digest) api.Item {
	return api.Item{Name: name, Kind: api.NodeDir, Sum: d}
}

// build: the root of a tree of paths.
func build(t *testing.T, s *blob.Store, list ...api.File) api.Digest {
	t.Helper()
	root, e := tree.Build(s, list)
	if e != api.OK {
		t.Fatalf("Build: %d", e)
	}
	return root
}

// open: a carrier, which there must be.
func open(t *testing.T, s *blob.Store, root api.Digest, kind int) *carry.Carrier {
	t.Helper()
	c, e := carry.New(s, root, kind)
	if e != api.OK || c == nil {
		t.Fatalf("P8.1: New: %v, %d", c, e)
	}
	return c
}

// show: the beginning of a text of something, digests by their first bytes.
func show(x any) string {
	if list, ok := x.([]api.Digest); ok {
		var short []string
		for _, d := range list {
			short = append(short, sha.Hex(d)[:8])
		}
		x = short
	}
	return fmt.Sprintf("%.300s", fmt.Sprint(x))
}

// stored: all that can be told of a store.
func stored(s *blob.Store) string {
	var b strings.Builder
	for d := range s.All() {
		bytes, e := s.Get(d)
		fmt.Fprintf(&b, "%x %x %d\n", d, bytes, e)
	}
	return b.String()
}

// told: all that can be told of a carrier and its store.
func told(c *carry.Carrier, s *blob.Store) string {
	return fmt.Sprint(c.Want(math.MaxInt), c.Done(), c.Foul()) + stored(s)
}

// wants: the carrier must want just these, in this order, and be foul or not; whether it is Done follows.
func wants(t *testing.T, what string, c *carry.Carrier, foul bool, want ...api.Digest) {
	t.Helper()
	if got := c.Want(math.MaxInt); !slices.Equal(got, want) {
		t.Errorf("%s: Want: %s; want %s", what, show(got), show(want))
	}
	if c.Foul() != foul {
		t.Errorf("%s: Foul: %t", what, c.Foul())
	}
	if done := len(want) == 0 && !foul; c.Done() != done {
		t.Errorf("%s: Done: %t", what, c.Done())
	}
}

// takes: the carrier must take these bytes, and its store have them.
func takes(t *testing.T, what string, c *carry.Carrier, s *blob.Store, b []byte) {
	t.Helper()
	if e := c.Offer(b); e != api.OK {
		t.Errorf("%s: Offer: %d", what, e)
	}
	if kept, e := s.Get(sha.Sum(b)); e != api.OK || !slices.Equal(kept, b) {
		t.Errorf("%s: behind Offer the store has %x, %d", what, kept, e)
	}
}

// refuses: Offer of these bytes must answer this error, and nothing be changed behind it.
func refuses(t *testing.T, what string, c *carry.Carrier, s *blob.Store, b []byte, want api.Errno) {
	t.Helper()
	before := told(c, s)
	if e := c.Offer(b); e != want {
		t.Errorf("%s: Offer: %d, want %d", what, e, want)
	}
	if told(c, s) != before {
		t.Errorf("%s: something has changed behind error %d", what, want)
	}
}

// reaches: Reach must answer these digests.
func reaches(t *testing.T, what string, s *blob.Store, root api.Digest, kind int, want ...api.Digest) {
	t.Helper()
	before := stored(s)
	if list, e := carry.Reach(s, root, kind); e != api.OK || !slices.Equal(list, want) {
		t.Errorf("%s: Reach: %s, %d; want %s", what, show(list), e, show(want))
	}
	if stored(s) != before {
		t.Errorf("%s: Reach has changed the store", what)
	}
}

// noReach: Reach must answer this error alone.
func noReach(t *testing.T, what string, s *blob.Store, root api.Digest, kind int, want api.Errno) {
	t.Helper()
	before := stored(s)
	if list, e := carry.Reach(s, root, kind); e != want || len(list) != 0 {
		t.Errorf("%s: Reach: %s, %d; want %d alone", what, show(list), e, want)
	}
	if stored(s) != before {
		t.Errorf("%s: Reach has changed the store", what)
	}
}

// harms: the ways in which a blob can be harmed, each with the error of getting it then.
func harms() map[api.Errno]func(s *blob.Store, d api.Digest) api.Errno {
	return map[api.Errno]func(s *blob.Store, d api.Digest) api.Errno{
		api.ErrLack:   (*blob.Store).Drop,
		api.ErrBroken: func(s *blob.Store, d api.Digest) api.Errno { return s.Spoil(d, 0, 1) },
	}
}

// harm: a blob that is there can no longer be got: with this error.
func harm(t *testing.T, s *blob.Store, d api.Digest, e api.Errno) {
	t.Helper()
	if e := harms()[e](s, d); e != api.OK {
		t.Fatalf("a blob that can't be harmed: %d", e)
	}
}

// sample is a tree by its parts:
//
//	root: a (a directory: f (a file: x, y), g (a file: x)), b (a file: y, z, y), c (the directory a again)
type sample struct {
	s                         *blob.Store
	root, a, f, g, b, x, y, z api.Digest
	all                       []api.Digest // in the order in which a carrier looks at them
}

// newSample: the tree in a store of its own.
func newSample(t *testing.T) sample {
	t.Helper()
	s := roomy()
	var m sample
	m.s = s
	m.x, m.y, m.z = add(t, s, chunk("x")), add(t, s, chunk("y")), add(t, s, chunk("z"))
	m.f, m.g, m.b = add(t, s, file(m.x, m.y)), add(t, s, file(m.x)), add(t, s, file(m.y, m.z, m.y))
	m.a = add(t, s, dir(toFile("f", m.f), toFile("g", m.g)))
	m.root = add(t, s, dir(toDir("a", m.a), toFile("b", m.b), toDir("c", m.a)))
	m.all = []api.Digest{m.root, m.a, m.f, m.x, m.y, m.g, m.b, m.z}
	return m
}

// of: a blob's bytes.
func (m sample) of(t *testing.T, d api.Digest) []byte {
	t.Helper()
	return get(t, m.s, d)
}

// without: a store with all of the sample's blobs but these.
func (m sample) without(t *testing.T, gone ...api.Digest) *blob.Store {
	t.Helper()
	s := m.s.Clone()
	for _, d := range gone {
		harm(t, s, d, api.ErrLack)
	}
	return s
}

// holding: a store with these of the sample's blobs alone.
func (m sample) holding(t *testing.T, there ...api.Digest) *blob.Store {
	t.Helper()
	s := roomy()
	for _, d := range there {
		put(t, s, m.of(t, d))
	}
	return s
}
