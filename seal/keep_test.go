package seal_test

import (
	"math/rand"
	"slices"
	"testing"

	"veneer/api"
	"veneer/blob"
	"veneer/reap"
	"veneer/seal"
	"veneer/sha"
)

// sample is two states that share pieces, sealed in one store, a tree that is no state's, and blobs that hang on none of them.
type sample struct {
	s                       *blob.Store
	one, two, odd           api.Digest
	first, second           []byte
	ofOne, ofTwo, ofOdd     [][]byte
	broken                  api.Digest // a directory whose bytes are others
	file, chunk, text, none api.Digest // a piece's node, a chunk, no node, no bytes: there, and no directories
}

// newSample: all of it in a store of its own.
func newSample(t *testing.T) sample {
	t.Helper()
	m := sample{s: roomy(), first: bytesOf(5000)}
	m.second = slices.Clone(m.first[:4000])
	m.second[1500] ^= 1
	m.one, m.two = sealed(t, m.s, m.first), sealed(t, m.s, m.second)
	m.ofOne, m.ofTwo = byHand(m.first).blobs(), byHand(m.second).blobs()
	own := roomy()
	m.odd = build(t, own, folder("/a"), plain("/a/f", "hi"))
	for d := range own.All() {
		b, _ := own.Get(d)
		put(t, m.s, b)
		m.ofOdd = append(m.ofOdd, b)
	}
	m.broken = put(t, m.s, byHand(bytesOf(99)).root)
	m.s.Spoil(m.broken, 0, 1)
	p := byHand(m.first).pieces[0]
	m.file, m.chunk = sha.Sum(p.node), sha.Sum(p.chunks[0])
	m.text, m.none = put(t, m.s, []byte("some text")), put(t, m.s, nil)
	return m
}

// items: roots of directories.
func items(roots []api.Digest) []api.Item {
	var list []api.Item
	for _, d := range roots {
		list = append(list, api.Item{Kind: api.NodeDir, Sum: d})
	}
	return list
}

// keeps: Keep must leave just these blobs, and tell how many went; so must reap.Sweep; a second Keep takes nothing.
func keeps(t *testing.T, what string, s *blob.Store, roots []api.Digest, want ...[][]byte) {
	t.Helper()
	other := s.Clone()
	gone := s.Count() - len(sums(want...))
	if n, e := seal.Keep(s, roots...); n != gone || e != api.OK {
		t.Errorf("%s: Keep: %d, %d; want %d", what, n, e, gone)
	}
	holds(t, what, s, want...)
	if n, e := reap.Sweep(other, items(roots)); n != gone || e != api.OK || stored(other) != stored(s) {
		t.Errorf("%s: reap.Sweep: %d, %d, %d blobs; Keep left %d", what, n, e, other.Count(), s.Count())
	}
	if n, e := seal.Keep(s, roots...); n != 0 || e != api.OK || stored(other) != stored(s) {
		t.Errorf("%s: a second Keep: %d, %d", what, n, e)
	}
}

// noKeep: Keep must answer this error alone, as reap.Sweep, and nothing go.
func noKeep(t *testing.T, what string, s *blob.Store, roots []api.Digest, want api.Errno) {
	t.Helper()
	before := stored(s)
	if n, e := seal.Keep(s, roots...); n != 0 || e != want {
		t.Errorf("%s: Keep: %d, %d; want %d alone", what, n, e, want)
	}
	if stored(s) != before {
		t.Errorf("%s: behind error %d something went", what, want)
	}
	if _, e := reap.Sweep(s.Clone(), items(roots)); e != want {
		t.Errorf("%s: reap.Sweep: %d; want %d", what, e, want)
	}
}

// digests: a list of them, shorter to write.
func digests(list ...api.Digest) []api.Digest { return list }

// P16.3: none, one, several, some told twice; what is left, and the states in it.
func TestKeep(t *testing.T) {
	m := newSample(t)
	for _, c := range []struct {
		what  string
		roots []api.Digest
		want  [][][]byte
	}{
		{"nil", nil, nil},
		{"no roots", digests(), nil},
		{"one", digests(m.one), [][][]byte{m.ofOne}},
		{"two", digests(m.two), [][][]byte{m.ofTwo}},
		{"both", digests(m.one, m.two), [][][]byte{m.ofOne, m.ofTwo}},
		{"both, the other way round", digests(m.two, m.one), [][][]byte{m.ofOne, m.ofTwo}},
		{"one twice", digests(m.one, m.one), [][][]byte{m.ofOne}},
		{"a tree that is no state's", digests(m.odd), [][][]byte{m.ofOdd}},
		{"all three", digests(m.odd, m.one, m.two), [][][]byte{m.ofOdd, m.ofOne, m.ofTwo}},
		{"many times", slices.Repeat(digests(m.odd, m.two), 20), [][][]byte{m.ofOdd, m.ofTwo}},
	} {
		s := m.s.Clone()
		keeps(t, "P16.3: "+c.what, s, c.roots, c.want...)
		for d, state := range map[api.Digest][]byte{m.one: m.first, m.two: m.second} {
			if slices.Contains(c.roots, d) {
				unseals(t, "P16.3: "+c.what, s, d, state)
			} else {
				noUnseal(t, "P16.3: "+c.what, s, d, api.ErrLack)
			}
		}
	}
}

// P16.3: how many go, in plain numbers; without arguments all goes.
func TestKeepCounts(t *testing.T) {
	s := roomy()
	one, two := sealed(t, s, []byte("one")), sealed(t, s, []byte("two"))
	three := sealed(t, s, bytesOf(1025)) // a root, 2 nodes, 17 chunks
	if s.Count() != 3+3+20 {
		t.Fatalf("P16.1: %d blobs", s.Count())
	}
	for _, c := range []struct {
		roots []api.Digest
		gone  int
		left  int
	}{{digests(one, two, three), 0, 26}, {digests(three, one), 3, 23}, {digests(one), 20, 3}, {nil, 3, 0}, {nil, 0, 0}} {
		if n, e := seal.Keep(s, c.roots...); n != c.gone || e != api.OK || s.Count() != c.left {
			t.Errorf("P16.3: %d roots: %d, %d, %d blobs; want %d, %d left", len(c.roots), n, e, s.Count(), c.gone, c.left)
		}
	}
	sealed(t, s, []byte("one"))
	if n, e := seal.Keep(s); n != 3 || e != api.OK || s.Count() != 0 || s.Bytes() != 0 {
		t.Errorf("P16.3: Keep(s): %d, %d, %d blobs", n, e, s.Count())
	}
}

// P16.3: no store: with and without roots.
func TestKeepNil(t *testing.T) {
	for _, roots := range [][]api.Digest{nil, {}, {{}}, {{1}, sha.Sum([]byte{3, 0})}} {
		if n, e := seal.Keep(nil, roots...); n != 0 || e != api.ErrNil {
			t.Errorf("P16.3: Keep(nil, %d roots): %d, %d; want ErrNil alone", len(roots), n, e)
		}
	}
}

// P16.3: a root that isn't there, is broken, or is no directory's, alone, ahead of right ones and behind them; of two the first.
func TestKeepRefuses(t *testing.T) {
	m := newSample(t)
	faults := map[api.Digest]api.Errno{
		{}: api.ErrLack, {9}: api.ErrLack, sha.Sum(byHand(bytesOf(4999)).root): api.ErrLack, m.broken: api.ErrBroken,
		m.file: api.ErrForm, m.chunk: api.ErrForm, m.text: api.ErrForm, m.none: api.ErrForm,
	}
	for d, e := range faults {
		noKeep(t, "P16.3: alone", m.s, digests(d), e)
		noKeep(t, "P16.3: ahead of a right one", m.s, digests(d, m.one), e)
		noKeep(t, "P16.3: behind right ones", m.s, digests(m.one, m.two, m.odd, d), e)
		for other := range faults {
			noKeep(t, "P16.3: ahead of another wrong one", m.s, digests(m.two, d, m.one, other), e)
		}
	}
	noKeep(t, "P16.3: no blobs", roomy(), digests(m.one), api.ErrLack)
	keeps(t, "P16.3: behind all that", m.s, digests(m.one), m.ofOne)
}

// P16.3: a blob below a root is harmed: nothing goes, till it is mended.
func TestKeepHarmed(t *testing.T) {
	m := newSample(t)
	for _, b := range m.ofTwo {
		s := m.s.Clone()
		d := sha.Sum(b)
		s.Spoil(d, 0, 1)
		noKeep(t, "P16.3: broken", s, digests(m.odd, m.two), api.ErrBroken)
		s.Drop(d)
		noKeep(t, "P16.3: not there", s, digests(m.odd, m.two), api.ErrLack)
		put(t, s, b)
		keeps(t, "P16.3: mended", s, digests(m.odd, m.two), m.ofOdd, m.ofTwo)
	}
}

// P16.3: what goes makes room for a state that had none.
func TestKeepMakesRoom(t *testing.T) {
	old, now, next := bytesOf(3000), bytesOf(3000), bytesOf(3000)
	now[0], next[0] = now[0]^1, next[0]^2
	s := blob.New(weigh(slices.Concat(byHand(old).blobs(), byHand(now).blobs())))
	sealed(t, s, old)
	root := sealed(t, s, now)
	noSeal(t, "P16.1: a third", s, next, api.ErrFull)
	keeps(t, "P16.3", s, digests(root), byHand(now).blobs())
	sealed(t, s, next)
	noSeal(t, "P16.1: a third again", s, old, api.ErrFull)
}

// P16.3: states of chance, sealed and kept by and by, as reap.Sweep has it.
func TestKeepChance(t *testing.T) {
	r := rand.New(rand.NewSource(163))
	for range 30 {
		s := roomy()
		state := drawn(r, r.Intn(6000)+1)
		states := map[api.Digest][]byte{}
		var roots []api.Digest
		for range 8 {
			state[r.Intn(len(state))] ^= byte(1 + r.Intn(255))
			root := sealed(t, s, state)
			states[root] = slices.Clone(state)
			roots = append(roots, root)
			chosen := roots[max(0, len(roots)-1-r.Intn(4)):]
			var want [][][]byte
			for _, d := range chosen {
				want = append(want, byHand(states[d]).blobs())
			}
			if r.Intn(2) == 0 {
				keeps(t, "P16.3: chance", s, chosen, want...)
				roots = slices.Clone(chosen)
			}
			for _, d := range roots {
				unseals(t, "P16.3: chance", s, d, states[d])
			}
		}
	}
}
