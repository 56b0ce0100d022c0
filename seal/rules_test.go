package seal_test

import (
	"bytes"
	"math/rand"
	"slices"
	"testing"

	"veneer/api"
	"veneer/seal"
)

// spare: bytes with spare room behind them that has something in it.
func spare(state []byte) []byte {
	b := append(slices.Clone(state), "what lies in the spare room"...)
	return b[:len(state)]
}

// scribble: all of it, the spare room too, is written over.
func scribble(b []byte) {
	b = b[:cap(b)]
	for i := range b {
		b[i] ^= 0xa5
	}
}

// Rule 3: Seal and Root don't change the state, nor its spare room, and don't keep it.
func TestStateIsLeftAlone(t *testing.T) {
	for _, size := range append(sizes(), api.MaxState+1) {
		want := bytesOf(size)
		state := spare(want)
		room := slices.Clone(state[:cap(state)])
		s := roomy()
		root, e := seal.Seal(s, state)
		other, f := seal.Root(state)
		if root != other || e != f || (e == api.OK) != (size <= api.MaxState) {
			t.Errorf("P16.1: %d bytes: %x, %d; Root: %x, %d", size, root, e, other, f)
		}
		if !bytes.Equal(state[:cap(state)], room) {
			t.Errorf("rule 3: %d bytes: the state or its spare room was changed", size)
		}
		if e != api.OK {
			continue
		}
		scribble(state)
		unseals(t, "rule 3: written over behind Seal", s, root, want)
		holds(t, "rule 3: written over behind Seal", s, byHand(want).blobs())
	}
}

// Rule 3: what Unseal answers is new memory: of the store, and of other answers.
func TestAnswersAreNew(t *testing.T) {
	for _, size := range sizes() {
		want := bytesOf(size)
		s := roomy()
		root := sealed(t, s, want)
		one, _ := seal.Unseal(s, root)
		two, _ := seal.Unseal(s, root)
		scribble(one)
		if !bytes.Equal(two, want) {
			t.Errorf("rule 3: %d bytes: two answers share memory", size)
		}
		scribble(two)
		unseals(t, "rule 3: answers written over", s, root, want)
		holds(t, "rule 3: answers written over", s, byHand(want).blobs())
	}
}

// Rule 3: Keep doesn't change the list of roots, nor its spare room, and doesn't keep it.
func TestRootsAreLeftAlone(t *testing.T) {
	m := newSample(t)
	for _, last := range []api.Digest{m.two, {}} { // one is kept, one is refused
		s := m.s.Clone()
		room := digests(m.two, m.one, m.two, last, api.Digest{7}, m.odd)
		roots := slices.Clone(room)[:4]
		seal.Keep(s, roots...)
		if !slices.Equal(roots[:6], room) {
			t.Error("rule 3: the roots or their spare room were changed")
		}
		before := stored(s)
		clear(roots[:6])
		if stored(s) != before {
			t.Error("rule 3: the store hangs on the roots that were handed in")
		}
	}
}

// Rule 5: the same calls have the same answers, whatever was sealed and kept elsewhere.
func TestSameAgain(t *testing.T) {
	r := rand.New(rand.NewSource(165))
	for range 20 {
		state := drawn(r, r.Intn(4000))
		one, two := roomy(), roomy()
		sealed(t, two, drawn(r, 3000))
		seal.Keep(two)
		if a, b := sealed(t, one, state), sealed(t, two, state); a != b || stored(one) != stored(two) {
			t.Errorf("rule 5: %x, %x", a, b)
		}
	}
}
