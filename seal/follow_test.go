package seal_test

import (
	"bytes"
	"math/rand"
	"slices"
	"testing"

	"veneer/api"
	"veneer/blob"
	"veneer/carry"
	"veneer/seal"
	"veneer/sha"
)

// bring: a tree comes from store to store, blob by blob; how many were brought.
func bring(t *testing.T, from, to *blob.Store, root api.Digest) int {
	t.Helper()
	c, e := carry.New(to, root, api.NodeDir)
	if e != api.OK {
		t.Fatalf("carry.New: %d", e)
	}
	count := 0
	for !c.Done() {
		list := c.Want(5)
		if len(list) == 0 {
			t.Fatal("P16.4: a sealed tree is foul")
		}
		for _, d := range list {
			b, e := from.Get(d)
			if e != api.OK {
				t.Fatalf("P16.4: Get: %d", e)
			}
			if e := c.Offer(b); e != api.OK {
				t.Fatalf("P16.4: Offer: %d", e)
			}
			count++
		}
	}
	return count
}

// someSize: of states, most of them near an edge.
func someSize(r *rand.Rand) int {
	edge := []int{0, 64, 1024, 2048, 10240, 65536 - 2}[r.Intn(6)]
	if r.Intn(3) == 0 {
		return r.Intn(20000)
	}
	return max(0, edge-2+r.Intn(5))
}

// P16.4: what was sealed is unsealed, here and where it was brought; there nothing else came along.
func TestThereAndBack(t *testing.T) {
	r := rand.New(rand.NewSource(164))
	s := roomy()
	for range 120 {
		state := drawn(r, someSize(r))
		if r.Intn(4) == 0 {
			state = bytes.Repeat([]byte{byte(r.Intn(3))}, len(state))
		}
		root := sealed(t, s, state)
		if got, e := seal.Unseal(s, root); e != api.OK || !bytes.Equal(got, state) {
			t.Fatalf("P16.4: %d bytes: Unseal: %d bytes, %d", len(state), len(got), e)
		}
		to := roomy()
		n := bring(t, s, to, root)
		unseals(t, "P16.4: brought", to, root, state)
		holds(t, "P16.4: brought", to, byHand(state).blobs())
		if gone, e := seal.Keep(to, root); gone != 0 || e != api.OK || n != to.Count() {
			t.Errorf("P16.4: of %d that were brought %d went, %d", n, gone, e)
		}
		if got, e := seal.Root(state); e != api.OK || got != root {
			t.Errorf("P16.4: Root: %x, %d; want %x", got, e, root)
		}
	}
}

// P16.4: many states in one store: each root has its own state, and no two have one.
func TestUnlikeRoots(t *testing.T) {
	r := rand.New(rand.NewSource(1641))
	var states [][]byte
	for _, size := range []int{0, 1, 2, 63, 64, 65, 1023, 1024, 1025, 2048, 2049} {
		states = append(states, make([]byte, size), bytes.Repeat([]byte{1}, size), drawn(r, size))
	}
	for range 150 {
		state := slices.Clone(states[r.Intn(len(states))])
		switch {
		case r.Intn(3) == 0 || len(state) == 0:
			state = append(state, byte(r.Intn(2)))
		case r.Intn(2) == 0:
			state = state[:len(state)-1]
		default:
			state[r.Intn(len(state))] ^= byte(1 + r.Intn(255))
		}
		states = append(states, state)
	}
	s := roomy()
	byRoot := map[api.Digest][]byte{}
	for _, state := range states {
		root := sealed(t, s, state)
		if old, there := byRoot[root]; there && !bytes.Equal(old, state) {
			t.Errorf("P16.4: states of %d and of %d bytes have one root", len(old), len(state))
		}
		byRoot[root] = state
		if again, e := seal.Root(slices.Clone(state)); e != api.OK || again != root {
			t.Errorf("P16.4: the same state has the roots %x and %x, %d", root, again, e)
		}
	}
	if len(byRoot) < 100 {
		t.Errorf("P16.4: only %d unlike states", len(byRoot))
	}
	for root, state := range byRoot {
		unseals(t, "P16.4: among others", s, root, state)
	}
}

// P16.4: of states that differ in one byte alone the roots differ, wherever it is.
func TestEachByteCounts(t *testing.T) {
	state := bytesOf(1100)
	root, _ := seal.Root(state)
	for at := range state {
		state[at] ^= 1
		if other, e := seal.Root(state); e != api.OK || other == root {
			t.Errorf("P16.4: byte %d changed: %x, %d", at, other, e)
		}
		state[at] ^= 1
	}
}

// P16.4: one byte is changed: all blobs but a chunk, its piece's node and the root are those of the one ahead.
func TestOneByteChanged(t *testing.T) {
	r := rand.New(rand.NewSource(1642))
	for range 30 {
		was := drawn(r, []int{1000, 1024, 1025, 5000, 65535, 65536}[r.Intn(6)])
		at := []int{0, 63, 64, len(was) - 65, r.Intn(len(was) - 64)}[r.Intn(5)]
		is := slices.Clone(was)
		is[at] ^= byte(1 + r.Intn(255))
		s := roomy()
		old := sealed(t, s, was)
		before := slices.Collect(s.All())
		root := sealed(t, s, is)
		var fresh []api.Digest
		for d := range s.All() {
			if !slices.Contains(before, d) {
				fresh = append(fresh, d)
			}
		}
		hand := byHand(is)
		p := hand.pieces[at/1024]
		if want := sums([][]byte{hand.root, p.node, p.chunks[at%1024/64]}); !slices.Equal(fresh, want) {
			t.Errorf("P16.4: byte %d of %d changed: %d new blobs, want a chunk, a node and the root", at, len(was), len(fresh))
		}
		unseals(t, "P16.4: the one ahead", s, old, was)
		unseals(t, "P16.4: the changed one", s, root, is)
		to := roomy()
		bring(t, s, to, old)
		if n := bring(t, s, to, root); n != 3 {
			t.Errorf("P16.4: %d blobs were brought, want 3", n)
		}
		unseals(t, "P16.4: brought", to, root, is)
	}
}

// P16.4: bytes come behind, or the last ones go: what is ahead of them stays.
func TestChangedAtTheEnd(t *testing.T) {
	for _, size := range []int{1023, 1024, 1025, 4096, 65000} {
		state := bytesOf(size + 1)
		s := roomy()
		sealed(t, s, state[:size])
		before := s.Count()
		root := sealed(t, s, state)
		if s.Count() > before+3 {
			t.Errorf("P16.4: %d bytes, and one more: %d new blobs", size, s.Count()-before)
		}
		if root != sha.Sum(byHand(state).root) {
			t.Errorf("P16.4: %d bytes, and one more: %x", size, root)
		}
		unseals(t, "P16.4: one more byte", s, root, state)
	}
}
