package seal_test

import (
	"bytes"
	"slices"
	"strconv"
	"testing"

	"veneer/api"
	"veneer/blob"
	"veneer/seal"
	"veneer/sha"
	"veneer/tree"
)

// P16.1: the root is that of the files that the chapter names, and the store has their blobs and no others.
func TestSeal(t *testing.T) {
	for _, size := range sizes() {
		what := "P16.1: " + strconv.Itoa(size) + " bytes"
		state := bytesOf(size)
		hand := byHand(state)
		s, own := roomy(), roomy()
		root := sealed(t, s, state)
		if want := build(t, own, pieces(state)...); root != want {
			t.Errorf("%s: the root is %x, want tree.Build's %x", what, root, want)
		}
		if want := sha.Sum(hand.root); root != want {
			t.Errorf("%s: the root is %x, want %x", what, root, want)
		}
		holds(t, what, s, hand.blobs())
		if stored(s) != stored(own) {
			t.Errorf("%s: other blobs than tree.Build's", what)
		}
		if list, e := tree.Walk(s, root); e != api.OK || !slices.Equal(list, pieces(state)) {
			t.Errorf("%s: the tree has %d paths, %d", what, len(list), e)
		}
		if again := sealed(t, s, state); again != root || stored(s) != stored(own) {
			t.Errorf("%s: sealed again: %x", what, again)
		}
		if got, e := seal.Root(state); e != api.OK || got != root {
			t.Errorf("%s: Root: %x, %d; want %x", what, got, e, root)
		}
	}
}

// P16.1: states whose pieces, or chunks, are alike: the files are as many, the blobs fewer.
func TestSealAlike(t *testing.T) {
	for _, size := range sizes() {
		for _, b := range []byte{0, 7, 255} {
			state := bytes.Repeat([]byte{b}, size)
			s := roomy()
			root := sealed(t, s, state)
			holds(t, "P16.1: alike", s, byHand(state).blobs())
			if got, e := seal.Root(state); e != api.OK || got != root || root != sha.Sum(byHand(state).root) {
				t.Errorf("P16.1: %d bytes %d: %x; Root: %x, %d", size, b, root, got, e)
			}
		}
	}
	s := roomy()
	sealed(t, s, make([]byte, api.MaxState))
	if s.Count() != 3 {
		t.Errorf("P16.1: a chunk, a file's node and the root are %d blobs", s.Count())
	}
}

// P16.1: no store: ErrNil, ahead of a state that is too long.
func TestSealNil(t *testing.T) {
	for _, size := range []int{0, 1, 1025, api.MaxState, api.MaxState + 1, 1 << 20} {
		if d, e := seal.Seal(nil, make([]byte, size)); e != api.ErrNil || d != (api.Digest{}) {
			t.Errorf("P16.1: Seal(nil, %d bytes): %x, %d; want ErrNil alone", size, d, e)
		}
	}
	if d, e := seal.Seal(nil, nil); e != api.ErrNil || d != (api.Digest{}) {
		t.Errorf("P16.1: Seal(nil, nil): %x, %d; want ErrNil alone", d, e)
	}
}

// P16.1: one byte above the limit is refused, whatever room there is; MaxState bytes aren't.
func TestSealLong(t *testing.T) {
	full := roomy()
	sealed(t, full, bytesOf(api.MaxState))
	for _, size := range []int{api.MaxState + 1, api.MaxState + 1024, 100 * 1024, 101 * 1024, 1 << 20} {
		for _, s := range []*blob.Store{roomy(), blob.New(0), full} {
			noSeal(t, "P16.1: "+strconv.Itoa(size)+" bytes", s, bytesOf(size), api.ErrLong)
		}
		if d, e := seal.Root(bytesOf(size)); e != api.ErrLong || d != (api.Digest{}) {
			t.Errorf("P16.1: Root of %d bytes: %x, %d; want ErrLong alone", size, d, e)
		}
	}
}

// P16.1: a store that hasn't room for all of the blobs takes none of them.
func TestSealFull(t *testing.T) {
	for _, size := range sizes() {
		what := "P16.1: " + strconv.Itoa(size) + " bytes"
		state := bytesOf(size)
		all := weigh(byHand(state).blobs())
		for _, quota := range []int{-1, 0, 1, all / 2, all - 1} {
			noSeal(t, what+", room for "+strconv.Itoa(quota), blob.New(quota), state, api.ErrFull)
		}
		s := blob.New(all)
		sealed(t, s, state)
		sealed(t, s, state) // what is there needs no room again
		holds(t, what, s, byHand(state).blobs())
		if size > 0 {
			noSeal(t, what+", and one that is otherwise", s, state[1:], api.ErrFull)
		}
	}
}

// P16.1: blobs that are there need no room; what hangs on nothing takes room all the same.
func TestSealRoom(t *testing.T) {
	state := bytesOf(3000)
	hand := byHand(state)
	s := blob.New(weigh(hand.blobs()) + 5)
	put(t, s, hand.pieces[1].node)
	put(t, s, hand.pieces[0].chunks[3])
	other := put(t, s, []byte("123456"))
	noSeal(t, "P16.1: a byte too few", s, state, api.ErrFull)
	s.Drop(other)
	put(t, s, []byte("12345"))
	sealed(t, s, state)
	holds(t, "P16.1", s, hand.blobs(), [][]byte{[]byte("12345")})
}

// P16.1: blobs that are broken are whole again, as tree.Build has it.
func TestSealMends(t *testing.T) {
	state := bytesOf(2100)
	s := roomy()
	root := sealed(t, s, state)
	for d := range s.All() {
		s.Spoil(d, 0, 1)
	}
	noUnseal(t, "P16.2: all are broken", s, root, api.ErrBroken)
	if again := sealed(t, s, state); again != root {
		t.Errorf("P16.1: sealed again: %x, want %x", again, root)
	}
	holds(t, "P16.1: mended", s, byHand(state).blobs())
}

// P16.1: the chapter's examples.
func TestExamples(t *testing.T) {
	nothing, _ := tree.Build(roomy(), nil)
	if d, e := seal.Root(nil); e != api.OK || d != nothing || d != sha.Sum([]byte{3, 0}) {
		t.Errorf("P16.1: Root of no bytes: %x, %d; want %x", d, e, nothing)
	}
	if d, e := seal.Root([]byte{}); e != api.OK || d != nothing {
		t.Errorf("P16.1: Root of no bytes: %x, %d; want %x", d, e, nothing)
	}
	s := roomy()
	root := sealed(t, s, bytesOf(1025))
	list, e := tree.Walk(s, root)
	if e != api.OK || len(list) != 2 || list[0].Path != "/p00" || len(list[0].Data) != 1024 || list[1].Path != "/p01" || len(list[1].Data) != 1 {
		t.Errorf("P16.1: 1025 bytes: %d paths, %d", len(list), e)
	}
	for _, list := range [][]api.File{
		{plain("/p00", text(1023)), plain("/p01", "x")}, {plain("/p01", "x")}, {plain("/q", "")}, {plain("/q", "x")},
	} {
		noUnseal(t, "P16.2: the example", s, build(t, s, list...), api.ErrForm)
	}
}
