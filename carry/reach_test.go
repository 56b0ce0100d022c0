package carry_test

import (
	"slices"
	"strconv"
	"testing"

	"veneer/api"
	"veneer/blob"
	"veneer/carry"
)

// P8.5: a nil store ahead of a kind that may not be, and both ahead of what is wrong with the root.
func TestReachArgs(t *testing.T) {
	m := newSample(t)
	for _, root := range []api.Digest{{}, m.root, m.b, m.x} {
		for kind, want := range kinds() {
			noReach(t, "P8.5: nil store", nil, root, kind, api.ErrNil)
			if want != api.OK {
				noReach(t, "P8.5: kind "+strconv.Itoa(kind), m.s, root, kind, want)
			}
		}
	}
}

// P8.5: whole trees and files: the digests in order, each once.
func TestReach(t *testing.T) {
	m := newSample(t)
	reaches(t, "P8.5: the tree", m.s, m.root, api.NodeDir, m.all...)
	reaches(t, "P8.5: a directory of it", m.s, m.a, api.NodeDir, m.a, m.f, m.x, m.y, m.g)
	reaches(t, "P8.5: a file", m.s, m.f, api.NodeFile, m.f, m.x, m.y)
	reaches(t, "P8.5: a file with one chunk twice", m.s, m.b, api.NodeFile, m.b, m.y, m.z)
	empty, none := add(t, m.s, dir()), add(t, m.s, file())
	reaches(t, "P8.5: an empty directory", m.s, empty, api.NodeDir, empty)
	reaches(t, "P8.5: a file of no bytes", m.s, none, api.NodeFile, none)
	twice := add(t, m.s, dir(toDir("a", empty), toFile("b", none), toDir("c", empty), toFile("d", none)))
	reaches(t, "P8.5: each twice", m.s, twice, api.NodeDir, twice, empty, none)
	back := add(t, m.s, dir(toFile("z", m.b), toFile("zz", m.f)))
	above := add(t, m.s, dir(toFile("a", m.g), toDir("b", back), toDir("c", m.a)))
	reaches(t, "P8.5: another order", m.s, above, api.NodeDir, above, m.g, m.x, back, m.b, m.y, m.z, m.f, m.a)
}

// P8.5: a chunk's length isn't looked at: that is layer 7's.
func TestReachLengths(t *testing.T) {
	s := roomy()
	bit := add(t, s, chunk("ab"))
	f := add(t, s, file(bit, bit, bit))
	reaches(t, "P8.5", s, f, api.NodeFile, f, bit)
}

// P8.5: roots that can't be got, or are of another kind.
func TestReachRoots(t *testing.T) {
	m := newSample(t)
	for _, kind := range []int{api.NodeFile, api.NodeDir} {
		noReach(t, "P8.5: no such root", m.s, api.Digest{}, kind, api.ErrLack)
		for _, b := range junk(t) {
			noReach(t, "P8.5: no node", m.s, put(t, m.s, []byte(b)), kind, api.ErrForm)
		}
		noReach(t, "P8.5: a chunk", m.s, m.x, kind, api.ErrForm)
		for e := range harms() {
			for _, d := range []api.Digest{m.root, m.f} {
				s := m.s.Clone()
				harm(t, s, d, e)
				noReach(t, "P8.5: harmed", s, d, kind, e)
			}
		}
	}
	noReach(t, "P8.5: no file", m.s, m.root, api.NodeFile, api.ErrForm)
	noReach(t, "P8.5: no directory", m.s, m.f, api.NodeDir, api.ErrForm)
}

// P8.5: one blob is missing or broken, at each place, and two of them: the one that is met first is told.
func TestReachHarmed(t *testing.T) {
	m := newSample(t)
	for i, first := range m.all {
		for e := range harms() {
			s := m.s.Clone()
			harm(t, s, first, e)
			noReach(t, "P8.5: place "+strconv.Itoa(i), s, m.root, api.NodeDir, e)
			for _, second := range m.all[i+1:] {
				for other := range harms() {
					both := s.Clone()
					harm(t, both, second, other)
					noReach(t, "P8.5: place "+strconv.Itoa(i)+" and another", both, m.root, api.NodeDir, e)
				}
			}
		}
	}
}

// oddity is something that a tree's blob names, with the error of reaching it.
type oddity struct {
	item api.Item
	e    api.Errno
}

// oddities: items that are missing, broken, no nodes, of another kind, whole.
func oddities(t *testing.T, s *blob.Store, name string) []oddity {
	t.Helper()
	text, broken := put(t, s, []byte("some text")), add(t, s, dir(toDir("gone", api.Digest{3})))
	harm(t, s, broken, api.ErrBroken)
	empty, none, bit := add(t, s, dir()), add(t, s, file()), add(t, s, chunk("odd"))
	return []oddity{
		{toFile(name, api.Digest{1}), api.ErrLack}, {toDir(name, api.Digest{2}), api.ErrLack},
		{toFile(name, broken), api.ErrBroken}, {toDir(name, broken), api.ErrBroken},
		{toFile(name, text), api.ErrForm}, {toDir(name, text), api.ErrForm},
		{toFile(name, empty), api.ErrForm}, {toDir(name, none), api.ErrForm},
		{toFile(name, bit), api.ErrForm}, {toDir(name, bit), api.ErrForm},
		{toFile(name, add(t, s, file(empty))), api.ErrForm}, {toFile(name, add(t, s, file(bit, api.Digest{4}))), api.ErrLack},
		{toFile(name, none), api.OK}, {toDir(name, empty), api.OK}, {toFile(name, add(t, s, file(bit))), api.OK},
	}
}

// P8.5: two oddities at two places, one below the other's neighbour: all that comes of one ahead of the next one.
func TestReachOddities(t *testing.T) {
	m := newSample(t)
	for _, p := range oddities(t, m.s, "p") {
		for _, q := range oddities(t, m.s, "q") {
			want := p.e
			if want == api.OK {
				want = q.e
			}
			sub := add(t, m.s, dir(toDir("a", m.a), p.item))
			for _, root := range []api.Digest{
				add(t, m.s, dir(toFile("f", m.f), p.item, q.item)),
				add(t, m.s, dir(toDir("f", sub), q.item, toDir("z", sub))),
				add(t, m.s, dir(p.item, toDir("r", add(t, m.s, dir(q.item))))),
			} {
				list, e := carry.Reach(m.s, root, api.NodeDir)
				if e != want || e != api.OK && len(list) != 0 {
					t.Errorf("P8.5: %v, %v: %s, %d; want %d", p, q, show(list), e, want)
				}
			}
		}
	}
}

// P8.5: one digest as two kinds: one of them is wrong, whichever comes first.
func TestReachTwoKinds(t *testing.T) {
	m := newSample(t)
	for _, d := range []api.Digest{m.z, m.f, m.a} {
		for _, kinds := range [][]int{{1, 2}, {2, 1}, {1, 3}, {3, 1}, {2, 3}, {3, 2}, {1, 2, 3}, {3, 2, 1}} {
			noReach(t, "P8.5: two kinds", m.s, asKinds(t, m.s, d, kinds...), api.NodeDir, api.ErrForm)
		}
	}
	of := add(t, m.s, file(m.g))
	noReach(t, "P8.5: a file as a chunk, and as a file", m.s, add(t, m.s, dir(toFile("a", m.g), toFile("b", of))), api.NodeDir, api.ErrForm)
}

// P8.5: trees in which one directory stands at very many paths, or very deep: each blob is looked at once, and it ends.
func TestReachHuge(t *testing.T) {
	s := roomy()
	d := add(t, s, dir())
	want := []api.Digest{d}
	for range 40 {
		var items []api.Item
		for i := range 64 {
			items = append(items, toDir(strconv.Itoa(10+i), d))
		}
		d = add(t, s, dir(items...))
		want = append(want, d)
	}
	for range 1<<15 - 41 {
		d = add(t, s, dir(toDir("d", d)))
		want = append(want, d)
	}
	slices.Reverse(want)
	if list, e := carry.Reach(s, d, api.NodeDir); e != api.OK || !slices.Equal(list, want) {
		t.Errorf("P8.5: %d digests, %d; want %d", len(list), e, len(want))
	}
	wants(t, "P8.1", open(t, s, d, api.NodeDir), false)
	harm(t, s, want[len(want)-1], api.ErrLack)
	if list, e := carry.Reach(s, d, api.NodeDir); e != api.ErrLack || len(list) != 0 {
		t.Errorf("P8.5: %d digests, %d", len(list), e)
	}
	wants(t, "P8.1", open(t, s, d, api.NodeDir), false, want[len(want)-1])
}
