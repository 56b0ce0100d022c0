package carry_test

import (
	"bytes"
	"slices"
	"testing"

	"veneer/api"
	"veneer/blob"
	"veneer/sha"
)

// P8.3: bytes that nobody asked for: none, no node's, a node's that is no part, one that was brought, one that isn't looked at yet.
func TestOfferForeign(t *testing.T) {
	m := newSample(t)
	s := roomy()
	c := open(t, s, m.root, api.NodeDir)
	refuses(t, "P8.3: nil", c, s, nil, api.ErrForeign)
	for _, b := range junk(t) {
		refuses(t, "P8.3: no node", c, s, []byte(b), api.ErrForeign)
	}
	refuses(t, "P8.3: longer than a blob", c, s, make([]byte, api.MaxBlob+1), api.ErrForeign)
	refuses(t, "P8.3: a right node", c, s, encode(t, dir()), api.ErrForeign)
	for _, d := range m.all[1:] {
		refuses(t, "P8.3: not looked at yet", c, s, m.of(t, d), api.ErrForeign)
	}
	b := m.of(t, m.root)
	for i := range b {
		other := bytes.Clone(b)
		other[i] ^= 1
		refuses(t, "P8.3: one bit of it is another one", c, s, other, api.ErrForeign)
	}
	refuses(t, "P8.3: a byte more", c, s, append(bytes.Clone(b), 0), api.ErrForeign)
	refuses(t, "P8.3: a byte less", c, s, b[:len(b)-1], api.ErrForeign)
	for i, d := range m.all {
		takes(t, "P8.3", c, s, m.of(t, d))
		for _, brought := range m.all[:i+1] {
			refuses(t, "P8.3: brought before", c, s, m.of(t, brought), api.ErrForeign)
		}
	}
	harm(t, s, m.x, api.ErrLack)
	refuses(t, "P8.3: brought before, and gone since", c, s, m.of(t, m.x), api.ErrForeign)
	foul := open(t, m.s, m.x, api.NodeDir)
	refuses(t, "P8.3: a foul pair isn't wanted", foul, m.s, m.of(t, m.x), api.ErrForeign)
}

// P8.3: bytes of a wanted digest that aren't those of a right node of that kind.
func TestOfferForm(t *testing.T) {
	m := newSample(t)
	texts := append(junk(t), string(make([]byte, api.MaxBlob+1)), string(make([]byte, 1<<20)))
	for _, text := range texts {
		for _, kind := range []int{api.NodeFile, api.NodeDir} {
			s := roomy()
			c := open(t, s, sha.Sum([]byte(text)), kind)
			refuses(t, "P8.3: no node", c, s, []byte(text), api.ErrForm)
			wants(t, "P8.3: no node", c, false, sha.Sum([]byte(text)))
		}
	}
	for _, d := range m.all {
		for _, kind := range []int{api.NodeFile, api.NodeDir} {
			s := roomy()
			c := open(t, s, d, kind)
			isDir, isFile := d == m.root || d == m.a, d == m.f || d == m.g || d == m.b
			if isDir && kind == api.NodeDir || isFile && kind == api.NodeFile {
				takes(t, "P8.3: that kind", c, s, m.of(t, d))
			} else {
				refuses(t, "P8.3: another kind", c, s, m.of(t, d), api.ErrForm)
			}
		}
	}
	for _, d := range []api.Digest{m.f, m.a, put(t, m.s, []byte("some text"))} {
		s := roomy()
		c := open(t, s, add(t, s, file(d)), api.NodeFile)
		refuses(t, "P8.3: no chunk", c, s, m.of(t, d), api.ErrForm)
	}
}

// P8.3: a wanted pair whose blob came by itself, and is of another kind: it stays wanted, and can't be brought.
func TestOfferFormBehind(t *testing.T) {
	m := newSample(t)
	s := roomy()
	c := open(t, s, m.b, api.NodeDir)
	put(t, s, m.of(t, m.b))
	wants(t, "P8.1", c, false, m.b)
	refuses(t, "P8.3", c, s, m.of(t, m.b), api.ErrForm)
}

// P8.3: a store without room takes it when there is room.
func TestOfferFull(t *testing.T) {
	m := newSample(t)
	size := len(m.of(t, m.root))
	for quota := range size + 2 {
		s := blob.New(quota)
		c := open(t, s, m.root, api.NodeDir)
		if quota >= size {
			takes(t, "P8.3: there is room", c, s, m.of(t, m.root))
			wants(t, "P8.3: there is room", c, false, m.a, m.b)
		} else {
			refuses(t, "P8.3: no room", c, s, m.of(t, m.root), api.ErrFull)
		}
	}
	s := blob.New(size + 3)
	other := put(t, s, []byte("abcd"))
	c := open(t, s, m.root, api.NodeDir)
	for range 3 {
		refuses(t, "P8.3: a byte too many", c, s, m.of(t, m.root), api.ErrFull)
	}
	harm(t, s, other, api.ErrLack)
	takes(t, "P8.3: room was made", c, s, m.of(t, m.root))
	wants(t, "P8.3: room was made", c, false, m.a, m.b)
	refuses(t, "P8.3: no room for the next one", c, s, m.of(t, m.a), api.ErrFull)
}

// P8.3: what is there, broken or come by itself, needs no room.
func TestOfferNoRoomNeeded(t *testing.T) {
	m := newSample(t)
	b := m.of(t, m.f)
	s := blob.New(len(b))
	put(t, s, b)
	harm(t, s, m.f, api.ErrBroken)
	c := open(t, s, m.f, api.NodeFile)
	wants(t, "P8.1: broken", c, false, m.f)
	takes(t, "P8.3: mended", c, s, b)
	wants(t, "P8.3: mended", c, false, m.x, m.y)
	s = blob.New(len(b))
	c = open(t, s, m.f, api.NodeFile)
	put(t, s, b)
	takes(t, "P8.3: it is there", c, s, b)
	wants(t, "P8.3: it is there", c, false, m.x, m.y)
}

// P8.3, rule 1: offers that have two errors, or all.
func TestOfferFirst(t *testing.T) {
	m := newSample(t)
	full := blob.New(0)
	c := open(t, full, m.root, api.NodeDir)
	refuses(t, "P8.3: foreign, and no room", c, full, m.of(t, m.a), api.ErrForeign)
	refuses(t, "P8.3: foreign, no node, and no room", c, full, []byte("some text"), api.ErrForeign)
	refuses(t, "P8.3: foreign, too long, and no room", c, full, make([]byte, api.MaxBlob+1), api.ErrForeign)
	refuses(t, "P8.3: no room alone", c, full, m.of(t, m.root), api.ErrFull)
	s := roomy()
	c = open(t, s, m.root, api.NodeDir)
	refuses(t, "P8.3: foreign, and no node", c, s, []byte("some text"), api.ErrForeign)
	refuses(t, "P8.3: foreign, and too long", c, s, make([]byte, api.MaxBlob+1), api.ErrForeign)
	for _, text := range []string{"some text", string(make([]byte, api.MaxBlob+1))} {
		c = open(t, full, sha.Sum([]byte(text)), api.NodeDir)
		refuses(t, "P8.3: no node, and no room", c, full, []byte(text), api.ErrForm)
	}
	c = open(t, full, m.f, api.NodeDir)
	refuses(t, "P8.3: another kind, and no room", c, full, m.of(t, m.f), api.ErrForm)
}

// asKinds: a directory's node, with a file's beside it, that names a digest for each of these kinds, in that order.
func asKinds(t *testing.T, s *blob.Store, d api.Digest, kinds ...int) api.Digest {
	t.Helper()
	var items []api.Item
	for i, kind := range kinds {
		name := string(rune('a' + i))
		if kind == api.NodeChunk {
			items = append(items, toFile(name, add(t, s, file(d))))
		} else {
			items = append(items, api.Item{Name: name, Kind: kind, Sum: d})
		}
	}
	return add(t, s, dir(items...))
}

// P8.3: a digest that is wanted for several kinds: one is brought, the others are foul; none, if none is the blob's.
func TestOfferKinds(t *testing.T) {
	m := newSample(t)
	kids := map[int][]api.Digest{api.NodeChunk: nil, api.NodeFile: {m.x, m.y}, api.NodeDir: {m.f, m.g}}
	for kind, d := range map[int]api.Digest{api.NodeChunk: m.z, api.NodeFile: m.f, api.NodeDir: m.a} {
		for _, wanted := range [][]int{{1, 2}, {2, 1}, {1, 3}, {3, 1}, {2, 3}, {3, 2}, {1, 2, 3}, {3, 2, 1}, {2, 3, 1}} {
			s := roomy()
			c := open(t, s, asKinds(t, s, d, wanted...), api.NodeDir)
			wants(t, "P8.2: several kinds", c, false, d)
			if !slices.Contains(wanted, kind) {
				refuses(t, "P8.3: none of them", c, s, m.of(t, d), api.ErrForm)
				continue
			}
			takes(t, "P8.3: one of them", c, s, m.of(t, d))
			wants(t, "P8.3: one of them", c, true, kids[kind]...)
			refuses(t, "P8.3: no longer", c, s, m.of(t, d), api.ErrForeign)
		}
		s := roomy()
		c := open(t, s, asKinds(t, s, d, kind, kind), api.NodeDir)
		takes(t, "P8.3: twice the same kind", c, s, m.of(t, d))
		wants(t, "P8.3: twice the same kind", c, false, kids[kind]...)
	}
}

// P8.3: a pair of another kind that is looked at behind the offer finds the blob there, and is foul.
func TestOfferKindLater(t *testing.T) {
	m := newSample(t)
	s := roomy()
	sub := encode(t, dir(toFile("p", m.a), toFile("q", m.b)))
	root := add(t, s, dir(toDir("a", m.a), toDir("b", sha.Sum(sub))))
	c := open(t, s, root, api.NodeDir)
	takes(t, "P8.3", c, s, m.of(t, m.a))
	wants(t, "P8.3", c, false, sha.Sum(sub), m.f, m.g)
	takes(t, "P8.3", c, s, sub)
	wants(t, "P8.3: it is there, and no file", c, true, m.f, m.g, m.b)
}

// P8.3: a node whose Kids are there in part, whole trees among them, or foul.
func TestOfferKids(t *testing.T) {
	m := newSample(t)
	s := m.holding(t, m.a, m.g, m.x)
	c := open(t, s, m.root, api.NodeDir)
	takes(t, "P8.3", c, s, m.of(t, m.root))
	wants(t, "P8.3: what is there is looked through", c, false, m.f, m.b)
	takes(t, "P8.3", c, s, m.of(t, m.f))
	wants(t, "P8.3: x is there", c, false, m.b, m.y)
	s = m.without(t, m.root)
	c = open(t, s, m.root, api.NodeDir)
	takes(t, "P8.3", c, s, m.of(t, m.root))
	wants(t, "P8.3: all is there", c, false)
	for e := range harms() {
		s = m.without(t, m.root)
		harm(t, s, m.y, e)
		c = open(t, s, m.root, api.NodeDir)
		takes(t, "P8.3", c, s, m.of(t, m.root))
		wants(t, "P8.3: deep below, one can't be got", c, false, m.y)
	}
	s = m.holding(t, m.x, m.a)
	root := encode(t, dir(toFile("a", m.x), toFile("b", m.b), toDir("c", m.a)))
	c = open(t, s, sha.Sum(root), api.NodeDir)
	takes(t, "P8.3", c, s, root)
	wants(t, "P8.3: a kid is foul, the others are looked at", c, true, m.b, m.f, m.g)
}

// The chapter's example.
func TestExample(t *testing.T) {
	from, s := roomy(), roomy()
	root := build(t, from, api.File{Path: "/f", Data: "hi"})
	bit := encode(t, chunk("hi"))
	of := encode(t, api.Node{Kind: api.NodeFile, Size: 2, Parts: []api.Digest{sha.Sum(bit)}})
	c := open(t, s, root, api.NodeDir)
	for _, b := range [][]byte{get(t, from, root), of, bit} {
		wants(t, "P8.6", c, false, sha.Sum(b))
		for _, other := range [][]byte{nil, []byte("x"), get(t, from, root), of, bit} {
			if !bytes.Equal(other, b) {
				refuses(t, "P8.6", c, s, other, api.ErrForeign)
			}
		}
		takes(t, "P8.6", c, s, b)
	}
	wants(t, "P8.6", c, false)
}

// Rule 3: what is offered isn't changed, its spare room neither, and may be written over.
func TestOfferedIsFree(t *testing.T) {
	m := newSample(t)
	s := roomy()
	c := open(t, s, m.root, api.NodeDir)
	offers := append([][]byte{[]byte("x")}, m.of(t, m.a))
	for _, d := range m.all {
		offers = append(offers, m.of(t, d))
	}
	for _, offer := range offers {
		room := append(bytes.Clone(offer), "spare room"...)
		b := room[:len(offer)]
		c.Offer(b)
		if !bytes.Equal(b, offer) || string(room[len(offer):]) != "spare room" {
			t.Error("rule 3: what was offered has changed")
		}
		clear(room)
	}
	wants(t, "rule 3", c, false)
	reaches(t, "rule 3", s, m.root, api.NodeDir, m.all...)
}
