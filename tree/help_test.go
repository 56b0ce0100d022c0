package tree_test

import (
	"fmt"
	"slices"
	"strconv"
	"strings"
	"testing"

	"veneer/api"
	"veneer/blob"
	"veneer/node"
	"veneer/sha"
	"veneer/tree"
)

// roomy: a store that has room for all that a test puts.
func roomy() *blob.Store { return blob.New(1 << 24) }

// text: so many bytes, no two pieces of ChunkLen alike.
func text(count int) string {
	var b strings.Builder
	for i := 0; b.Len() < count; i++ {
		b.WriteString(strconv.Itoa(i) + ",")
	}
	return b.String()[:count]
}

// words: names or paths, with spaces between.
func words(s string) []string { return strings.Fields(s) }

// put: a right node's blob is in the store.
func put(t *testing.T, s *blob.Store, n api.Node) api.Digest {
	t.Helper()
	b, e := node.Encode(n)
	if e != api.OK {
		t.Fatalf("a node that isn't right: %v", n)
	}
	d, e := s.Put(b)
	if e != api.OK {
		t.Fatalf("Put: %d", e)
	}
	return d
}

// chunk, file, dir: nodes of each kind.
func chunk(data string) api.Node { return api.Node{Kind: api.NodeChunk, Data: data} }

func file(size int, parts ...api.Digest) api.Node {
	return api.Node{Kind: api.NodeFile, Size: size, Parts: parts}
}

func dir(items ...api.Item) api.Node { return api.Node{Kind: api.NodeDir, Items: items} }

// to: an item of a directory.
func to(name string, kind int, d api.Digest) api.Item {
	return api.Item{Name: name, Kind: kind, Sum: d}
}

// folder, plain: what Build is told, and Walk tells.
func folder(path string) api.File { return api.File{Path: path, Dir: true} }

func plain(path, data string) api.File { return api.File{Path: path, Data: data} }

// build: the root of a list, which must be that of a tree.
func build(t *testing.T, s *blob.Store, list ...api.File) api.Digest {
	t.Helper()
	root, e := tree.Build(s, list)
	if e != api.OK {
		t.Fatalf("Build: %d of %s", e, show(list))
	}
	return root
}

// show: the beginning of a text of something.
func show(x any) string { return fmt.Sprintf("%.200s", fmt.Sprint(x)) }

// state: all that can be told of a store.
func state(s *blob.Store) string {
	var b strings.Builder
	for d := range s.All() {
		bytes, e := s.Get(d)
		fmt.Fprintf(&b, "%x %x %d\n", d, bytes, e)
	}
	return b.String()
}

// holds: the store must have just these digests.
func holds(t *testing.T, what string, s *blob.Store, want ...api.Digest) {
	t.Helper()
	slices.SortFunc(want, sha.Compare)
	want = slices.Compact(want)
	if got := slices.Collect(s.All()); !slices.Equal(got, want) {
		t.Errorf("%s: the store has %d blobs, want these %d: %s", what, len(got), len(want), show(want))
	}
}

// walks: Walk must tell this list.
func walks(t *testing.T, what string, s *blob.Store, root api.Digest, want ...api.File) {
	t.Helper()
	if list, e := tree.Walk(s, root); e != api.OK || !slices.Equal(list, want) {
		t.Errorf("%s: Walk: %s, %d; want %s", what, show(list), e, show(want))
	}
}

// noWalk: Walk must answer this error, with nothing beside it.
func noWalk(t *testing.T, what string, s *blob.Store, root api.Digest, want api.Errno) {
	t.Helper()
	if list, e := tree.Walk(s, root); e != want || len(list) != 0 {
		t.Errorf("%s: Walk: %s, %d; want %d alone", what, show(list), e, want)
	}
}

// stats: Stat must answer this item, and how great it is.
func stats(t *testing.T, what string, s *blob.Store, root api.Digest, names []string, want api.Item, size int) {
	t.Helper()
	if item, n, e := tree.Stat(s, root, names); e != api.OK || item != want || n != size {
		t.Errorf("%s: Stat of %q: %s, %d, %d; want %s, %d", what, names, show(item), n, e, show(want), size)
	}
}

// nothing: Stat, Read and List must answer this error, with nothing beside it.
func nothing(t *testing.T, what string, s *blob.Store, root api.Digest, names []string, want api.Errno) {
	t.Helper()
	if item, n, e := tree.Stat(s, root, names); e != want || item != (api.Item{}) || n != 0 {
		t.Errorf("%s: Stat of %q: %s, %d, %d; want %d alone", what, names, show(item), n, e, want)
	}
	noRead(t, what, s, root, names, want)
	noList(t, what, s, root, names, want)
}

// reads: Read must answer this data.
func reads(t *testing.T, what string, s *blob.Store, root api.Digest, names []string, want string) {
	t.Helper()
	if data, e := tree.Read(s, root, names); e != api.OK || data != want {
		t.Errorf("%s: Read of %q: %.80q, %d; want %.80q", what, names, data, e, want)
	}
}

// noRead: Read must answer this error alone.
func noRead(t *testing.T, what string, s *blob.Store, root api.Digest, names []string, want api.Errno) {
	t.Helper()
	if data, e := tree.Read(s, root, names); e != want || data != "" {
		t.Errorf("%s: Read of %q: %.80q, %d; want %d alone", what, names, data, e, want)
	}
}

// lists: List must answer these items.
func lists(t *testing.T, what string, s *blob.Store, root api.Digest, names []string, want ...api.Item) {
	t.Helper()
	if items, e := tree.List(s, root, names); e != api.OK || !slices.Equal(items, want) {
		t.Errorf("%s: List of %q: %s, %d; want %s", what, names, show(items), e, show(want))
	}
}

// noList: List must answer this error alone.
func noList(t *testing.T, what string, s *blob.Store, root api.Digest, names []string, want api.Errno) {
	t.Helper()
	if items, e := tree.List(s, root, names); e != want || len(items) != 0 {
		t.Errorf("%s: List of %q: %s, %d; want %d alone", what, names, show(items), e, want)
	}
}

// differs: Diff must tell these changes.
func differs(t *testing.T, what string, s *blob.Store, a, b api.Digest, want ...api.Change) {
	t.Helper()
	if list, e := tree.Diff(s, a, b); e != api.OK || !slices.Equal(list, want) {
		t.Errorf("%s: Diff: %s, %d; want %s", what, show(list), e, show(want))
	}
}

// noDiff: Diff must answer this error alone.
func noDiff(t *testing.T, what string, s *blob.Store, a, b api.Digest, want api.Errno) {
	t.Helper()
	if list, e := tree.Diff(s, a, b); e != want || len(list) != 0 {
		t.Errorf("%s: Diff: %s, %d; want %d alone", what, show(list), e, want)
	}
}

// harms: the ways in which a blob can be harmed, each with the error of getting it then.
func harms() map[api.Errno]func(s *blob.Store, d api.Digest) api.Errno {
	return map[api.Errno]func(s *blob.Store, d api.Digest) api.Errno{
		api.ErrLack:   (*blob.Store).Drop,
		api.ErrBroken: func(s *blob.Store, d api.Digest) api.Errno { return s.Spoil(d, 0, 1) },
	}
}

// harm: a blob that is there can no longer be got: with this error.
func harm(t *testing.T, s *blob.Store, d api.Digest, e api.Errno) {
	t.Helper()
	if e := harms()[e](s, d); e != api.OK {
		t.Fatalf("a blob that can't be harmed: %d", e)
	}
}
