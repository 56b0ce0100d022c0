package seal_test

import (
	"bytes"
	"encoding/binary"
	"fmt"
	"math/rand"
	"slices"
	"strings"
	"testing"

	"veneer/api"
	"veneer/blob"
	"veneer/seal"
	"veneer/sha"
	"veneer/tree"
)

// roomy: a store that has room for all that a test puts.
func roomy() *blob.Store { return blob.New(1 << 26) }

// drawn: so many bytes of chance; no two chunks of them are alike, if they are whole.
func drawn(r *rand.Rand, size int) []byte {
	b := make([]byte, size)
	r.Read(b)
	return b
}

// bytesOf: so many bytes of chance, always the same ones.
func bytesOf(size int) []byte { return drawn(rand.New(rand.NewSource(16)), size) }

// sizes: how many bytes states have: round pieces, round chunks, and the edges that the document names.
func sizes() []int {
	return []int{0, 1, 63, 64, 65, 1023, 1024, 1025, 2047, 2048, 2049, 10240, 10241, 64511, 64512, 64513, 65535, 65536}
}

// plain, folder: what a tree has at a path.
func plain(path, data string) api.File { return api.File{Path: path, Data: data} }

func folder(path string) api.File { return api.File{Path: path, Dir: true} }

// text: so many bytes of a file.
func text(size int) string { return strings.Repeat("0123456789", size/10+1)[:size] }

// pieces: the files of a state's sealed tree, by the chapter's words.
func pieces(state []byte) []api.File {
	var list []api.File
	for at := 0; at < len(state); at += 1024 {
		list = append(list, plain(fmt.Sprintf("/p%02d", at/1024), string(state[at:min(at+1024, len(state))])))
	}
	return list
}

// num: a number's bytes.
func num(n int) []byte { return binary.AppendUvarint(nil, uint64(n)) }

// piece is the blobs of one piece of a state: its chunks, and its file's node.
type piece struct {
	chunks [][]byte
	node   []byte
}

// sealedTree is the blobs of a sealed tree.
type sealedTree struct {
	pieces []piece
	root   []byte
}

// byHand: the blobs of a state's sealed tree, by the chapters' words, byte by byte.
func byHand(state []byte) sealedTree {
	var out sealedTree
	var items []byte
	for i, f := range pieces(state) {
		var p piece
		var parts []byte
		for c := range slices.Chunk([]byte(f.Data), 64) {
			chunk := slices.Concat([]byte{1}, num(len(c)), c)
			d := sha.Sum(chunk)
			p.chunks = append(p.chunks, chunk)
			parts = append(parts, d[:]...)
		}
		p.node = slices.Concat([]byte{2}, num(len(f.Data)), parts)
		d := sha.Sum(p.node)
		items = slices.Concat(items, []byte{3, 'p', byte('0' + i/10), byte('0' + i%10), 2}, d[:])
		out.pieces = append(out.pieces, p)
	}
	out.root = slices.Concat([]byte{3}, num(len(out.pieces)), items)
	return out
}

// blobs: all of them.
func (x sealedTree) blobs() [][]byte {
	list := [][]byte{x.root}
	for _, p := range x.pieces {
		list = append(append(list, p.node), p.chunks...)
	}
	return list
}

// sums: the digests of blobs, rising, each once.
func sums(lists ...[][]byte) []api.Digest {
	var out []api.Digest
	for _, b := range slices.Concat(lists...) {
		out = append(out, sha.Sum(b))
	}
	slices.SortFunc(out, func(a, b api.Digest) int { return bytes.Compare(a[:], b[:]) })
	return slices.Compact(out)
}

// weigh: how many bytes a store needs for blobs.
func weigh(list [][]byte) int {
	s := roomy()
	s.PutAll(list)
	return s.Bytes()
}

// holds: a store must have just these blobs, whole.
func holds(t *testing.T, what string, s *blob.Store, lists ...[][]byte) {
	t.Helper()
	if got, want := slices.Collect(s.All()), sums(lists...); !slices.Equal(got, want) {
		t.Errorf("%s: the store has %d blobs, want %d", what, len(got), len(want))
	}
	for _, b := range slices.Concat(lists...) {
		if got, e := s.Get(sha.Sum(b)); e != api.OK || !bytes.Equal(got, b) {
			t.Errorf("%s: the blob %.40x: %.40x, %d", what, b, got, e)
			return
		}
	}
}

// stored: all that can be told of a store.
func stored(s *blob.Store) string {
	var b strings.Builder
	fmt.Fprintf(&b, "%d blobs, %d bytes\n", s.Count(), s.Bytes())
	for d := range s.All() {
		bytes, e := s.Get(d)
		fmt.Fprintf(&b, "%x %x %d\n", d, bytes, e)
	}
	return b.String()
}

// put: bytes are in the store.
func put(t *testing.T, s *blob.Store, b []byte) api.Digest {
	t.Helper()
	d, e := s.Put(b)
	if e != api.OK {
		t.Fatalf("Put: %d", e)
	}
	return d
}

// build: the root of a tree of paths.
func build(t *testing.T, s *blob.Store, list ...api.File) api.Digest {
	t.Helper()
	root, e := tree.Build(s, list)
	if e != api.OK {
		t.Fatalf("Build: %d", e)
	}
	return root
}

// sealed: the root of a state, which must be sealed.
func sealed(t *testing.T, s *blob.Store, state []byte) api.Digest {
	t.Helper()
	root, e := seal.Seal(s, state)
	if e != api.OK {
		t.Fatalf("P16.1: Seal of %d bytes: %d", len(state), e)
	}
	return root
}

// noSeal: Seal must answer this error alone, and change nothing.
func noSeal(t *testing.T, what string, s *blob.Store, state []byte, want api.Errno) {
	t.Helper()
	before := stored(s)
	if d, e := seal.Seal(s, state); e != want || d != (api.Digest{}) {
		t.Errorf("%s: Seal: %x, %d; want %d alone", what, d, e, want)
	}
	if stored(s) != before {
		t.Errorf("%s: behind error %d the store is another one", what, want)
	}
}

// unseals: Unseal must answer this state, and leave the store as it is.
func unseals(t *testing.T, what string, s *blob.Store, root api.Digest, want []byte) {
	t.Helper()
	before := stored(s)
	if got, e := seal.Unseal(s, root); e != api.OK || !bytes.Equal(got, want) {
		t.Errorf("%s: Unseal: %d bytes, %d; want %d bytes", what, len(got), e, len(want))
	}
	if stored(s) != before {
		t.Errorf("%s: Unseal has changed the store", what)
	}
}

// noUnseal: Unseal must answer this error alone, and change nothing.
func noUnseal(t *testing.T, what string, s *blob.Store, root api.Digest, want api.Errno) {
	t.Helper()
	before := stored(s)
	if got, e := seal.Unseal(s, root); e != want || len(got) != 0 {
		t.Errorf("%s: Unseal: %d bytes, %d; want %d alone", what, len(got), e, want)
	}
	if stored(s) != before {
		t.Errorf("%s: Unseal has changed the store", what)
	}
}
