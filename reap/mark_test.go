package reap_test

import (
	"slices"
	"strconv"
	"strings"
	"testing"

	"veneer/api"
	"veneer/blob"
	"veneer/reap"
)

// P9.1, P9.2: a nil store, with and without roots, right ones and wrong ones: ErrNil ahead of all.
func TestNilStore(t *testing.T) {
	m := newSample(t)
	lists := [][]api.Item{nil, {}}
	for _, c := range m.choices() {
		lists = append(lists, c.items)
	}
	for _, f := range m.faults(t) {
		lists = append(lists, roots(f.item))
	}
	for _, items := range lists {
		if list, e := reap.Mark(nil, items); len(list) != 0 || e != api.ErrNil {
			t.Errorf("P9.1: Mark(nil, %v): %s, %d", items, show(list), e)
		}
		if n, e := reap.Sweep(nil, items); n != 0 || e != api.ErrNil {
			t.Errorf("P9.2: Sweep(nil, %v): %d, %d", items, n, e)
		}
	}
}

// P9.1: what hangs on roots, rising, each once.
func TestMark(t *testing.T) {
	m := newSample(t)
	for _, c := range m.choices() {
		marks(t, "P9.1: "+c.what, m.s, c.items, c.want...)
	}
	marks(t, "P9.1: no blobs, no roots", roomy(), nil)
	nothing, none := add(t, m.s, dir()), add(t, m.s, file())
	marks(t, "P9.1: an empty directory", m.s, roots(dirAt("", nothing)), nothing)
	marks(t, "P9.1: a file of no bytes", m.s, roots(fileAt("", none)), none)
	marks(t, "P9.1: both", m.s, roots(fileAt("", none), dirAt("", nothing), fileAt("", none)), none, nothing)
}

// P9.1: rising by all bytes, whatever order the blobs are looked at.
func TestMarkOrder(t *testing.T) {
	s := roomy()
	var all []api.Digest
	var items []api.Item
	for i := range 60 {
		data := strconv.Itoa(i)
		bit := add(t, s, chunk(data))
		f := add(t, s, file(bit))
		d := add(t, s, dir(fileAt(data, f)))
		all = append(all, bit, f, d)
		items = append(items, dirAt("", d))
	}
	marks(t, "P9.1: sixty roots", s, items, all...)
	slices.Reverse(items)
	marks(t, "P9.1: sixty roots, the last one first", s, items, all...)
}

// P9.1: a root's name counts for nothing: not what it is, not whether it comes twice, not how names stand to one another.
func TestNames(t *testing.T) {
	m := newSample(t)
	for _, name := range []string{"", "a", ".", "..", "/", "a/b", "\x00", "\xff", "one", strings.Repeat("long", 100)} {
		marks(t, "P9.1: a name", m.s, roots(dirAt(name, m.one)), m.ofOne...)
		marks(t, "P9.1: one name for two", m.s, roots(dirAt(name, m.a), fileAt(name, m.b)), slices.Concat(m.ofA, m.ofB)...)
		marks(t, "P9.1: two names for one", m.s, roots(dirAt(name, m.a), dirAt("z", m.a), dirAt("b", m.a)), m.ofA...)
		for _, f := range m.faults(t) {
			f.item.Name = name
			refuses(t, "P9.1: a name of a wrong one", m.s, roots(f.item), f.e)
		}
		s := m.s.Clone()
		leaves(t, "P9.2: names", s, roots(dirAt(name, m.a), dirAt(name+"b", m.a)), m.ofA...)
	}
}

// P9.1, P9.2: roots of which the first, a later one, or the last has an error.
func TestOneFault(t *testing.T) {
	m := newSample(t)
	whole := roots(dirAt("", m.one), dirAt("", m.two), fileAt("", m.b))
	for i, f := range m.faults(t) {
		refuses(t, "alone, "+strconv.Itoa(i), m.s, roots(f.item), f.e)
		for at := range len(whole) + 1 {
			refuses(t, "among others, "+strconv.Itoa(i), m.s, slices.Insert(slices.Clone(whole), at, f.item), f.e)
		}
	}
}

// P9.1, P9.2, rule 1: of two errors, that of the root that comes first.
func TestTwoFaults(t *testing.T) {
	m := newSample(t)
	faults := m.faults(t)
	a, b := dirAt("", m.a), fileAt("", m.b)
	for i, first := range faults {
		for j, second := range faults {
			what := strconv.Itoa(i) + " and " + strconv.Itoa(j)
			for _, items := range [][]api.Item{{first.item, second.item}, {a, first.item, b, second.item}, {first.item, a, second.item, b}} {
				if list, e := reap.Mark(m.s, items); e != first.e || len(list) != 0 {
					t.Errorf("P9.1: %s: %s, %d; want %d", what, show(list), e, first.e)
				}
				if n, e := reap.Sweep(m.s, items); e != first.e || n != 0 {
					t.Errorf("P9.2: %s: %d, %d; want %d", what, n, e, first.e)
				}
			}
		}
	}
	marks(t, "P9.1: behind all these", m.s, roots(dirAt("", m.one), dirAt("", m.two)), slices.Concat(m.ofOne, m.ofTwo)...)
}

// P9.1: within one root the error of the blob that is met first; and a root with an error ahead of one in which it is deeper.
func TestFaultsWithin(t *testing.T) {
	m := newSample(t)
	s := m.s.Clone()
	spoil(t, s, m.y)
	drop(t, s, m.z)
	refuses(t, "P9.1: y ahead of z", s, roots(dirAt("", m.one)), api.ErrBroken)
	refuses(t, "P9.1: h is whole", s, roots(fileAt("", m.h), fileAt("", m.b)), api.ErrBroken)
	refuses(t, "P9.1: z alone", s, roots(fileAt("", add(t, s, file(m.z))), dirAt("", m.one)), api.ErrLack)
	refuses(t, "P9.1: a kind alone", s, roots(api.Item{Kind: api.NodeChunk, Sum: m.x}, dirAt("", m.one)), api.ErrKind)
}

// P9.1: one digest told as two kinds: one of them is wrong, marked already or not.
func TestTwoKinds(t *testing.T) {
	m := newSample(t)
	refuses(t, "P9.1", m.s, roots(dirAt("", m.a), fileAt("", m.a)), api.ErrForm)
	refuses(t, "P9.1", m.s, roots(fileAt("", m.a), dirAt("", m.a)), api.ErrForm)
	refuses(t, "P9.1", m.s, roots(dirAt("", m.one), dirAt("", m.f)), api.ErrForm)
	refuses(t, "P9.1", m.s, roots(fileAt("", m.f), fileAt("", m.x)), api.ErrForm)
	refuses(t, "P9.1", m.s, roots(fileAt("", m.f), api.Item{Kind: api.NodeChunk, Sum: m.x}), api.ErrKind)
}

// Rule 3: the roots aren't changed, their spare room neither, and may be written over; so may what was answered.
func TestMemory(t *testing.T) {
	m := newSample(t)
	spare := fileAt("spare", m.h)
	given := append(roots(dirAt("p", m.two), dirAt("q", m.a), fileAt("r", m.b)), spare)
	kept := slices.Clone(given)
	want := slices.Concat(m.ofTwo, m.ofB)
	first, _ := reap.Mark(m.s, given[:3])
	second, _ := reap.Mark(m.s, given[:3])
	s := m.s.Clone()
	reap.Sweep(s, given[:3])
	reap.Sweep(m.s.Clone(), append(given[:1:1], api.Item{Kind: 9}))
	if !slices.Equal(given, kept) {
		t.Errorf("rule 3: the roots are now %v", given)
	}
	clear(given)
	clear(first[:cap(first)])
	if !slices.Equal(second, rising(want...)) {
		t.Errorf("rule 3: two answers of Mark share memory")
	}
	marks(t, "rule 3: behind what was written over", m.s, kept[:3], want...)
	leaves(t, "rule 3: behind what was written over", s, kept[:3], want...)
}

// P9.1: one directory at very many paths, and a tree that is very deep: each blob once, and it ends.
func TestMarkHuge(t *testing.T) {
	s := roomy()
	d := add(t, s, dir())
	all := []api.Digest{d}
	for range 40 {
		var items []api.Item
		for i := range 64 {
			items = append(items, dirAt(strconv.Itoa(10+i), d))
		}
		d = add(t, s, dir(items...))
		all = append(all, d)
	}
	for range 1 << 12 {
		d = add(t, s, dir(dirAt("d", d)))
		all = append(all, d)
	}
	loose := add(t, s, dir(dirAt("loose", d)))
	marks(t, "P9.1: huge", s, roots(dirAt("", d), dirAt("", all[20])), all...)
	leaves(t, "P9.3: huge", s, roots(dirAt("", all[20]), dirAt("", d)), all...)
	if s.Has(loose) {
		t.Error("P9.2: what is above a root doesn't hang on it")
	}
}

// P9.1: a store with no room is asked like any other.
func TestNoRoom(t *testing.T) {
	s := blob.New(0)
	marks(t, "P9.1", s, nil)
	refuses(t, "P9.1", s, roots(dirAt("", api.Digest{})), api.ErrLack)
	leaves(t, "P9.2", s, nil)
}
