package seal_test

import (
	"fmt"
	"math/rand"
	"slices"
	"strconv"
	"strings"
	"testing"

	"veneer/api"
	"veneer/blob"
	"veneer/node"
	"veneer/seal"
	"veneer/sha"
	"veneer/tree"
)

// P16.2: the state, whoever built the tree.
func TestUnseal(t *testing.T) {
	for _, size := range sizes() {
		what := "P16.2: " + strconv.Itoa(size) + " bytes"
		state := bytesOf(size)
		s := roomy()
		root := build(t, s, pieces(state)...)
		unseals(t, what, s, root, state)
		other := roomy()
		for _, b := range byHand(state).blobs() {
			put(t, other, b)
		}
		unseals(t, what+", by hand", other, root, state)
		list := pieces(state)
		slices.Reverse(list)
		unseals(t, what+", told from the last on", s, build(t, s, list...), state)
	}
	zeros := make([]byte, api.MaxState)
	s := roomy()
	unseals(t, "P16.2: alike pieces", s, build(t, s, pieces(zeros)...), zeros)
}

// P16.2: no store.
func TestUnsealNil(t *testing.T) {
	for _, root := range []api.Digest{{}, {1}, sha.Sum([]byte{3, 0})} {
		if b, e := seal.Unseal(nil, root); e != api.ErrNil || len(b) != 0 {
			t.Errorf("P16.2: Unseal(nil, %x): %d bytes, %d; want ErrNil alone", root, len(b), e)
		}
	}
}

// P16.2: each blob in its turn isn't there, or is broken; put again, the state is there again.
func TestUnsealHarmed(t *testing.T) {
	state := bytesOf(2100)
	s := roomy()
	root := sealed(t, s, state)
	for _, b := range byHand(state).blobs() {
		d := sha.Sum(b)
		if e := s.Spoil(d, len(b)-1, 0x80); e != api.OK {
			t.Fatalf("Spoil: %d", e)
		}
		noUnseal(t, "P16.2: broken", s, root, api.ErrBroken)
		if e := s.Drop(d); e != api.OK {
			t.Fatalf("Drop: %d", e)
		}
		noUnseal(t, "P16.2: not there", s, root, api.ErrLack)
		put(t, s, b)
		unseals(t, "P16.2: mended", s, root, state)
	}
	noUnseal(t, "P16.2: no such root", s, api.Digest{}, api.ErrLack)
	noUnseal(t, "P16.2: no such root", s, api.Digest{1}, api.ErrLack)
	noUnseal(t, "P16.2: no blobs", roomy(), root, api.ErrLack)
}

// P16.2: a root that is no directory: a file's node, a chunk, no node at all.
func TestUnsealNoDir(t *testing.T) {
	state := bytesOf(100)
	s := roomy()
	sealed(t, s, state)
	p := byHand(state).pieces[0]
	roots := [][]byte{p.node, p.chunks[0], p.chunks[1], {}, []byte("some text"), {2, 0}, {3}, {3, 0, 0}, {3, 1}, {4, 0}}
	for _, b := range roots {
		noUnseal(t, fmt.Sprintf("P16.2: the root %.20x", b), s, put(t, s, b), api.ErrForm)
	}
}

// shape is a tree that is no state's.
type shape struct {
	what string
	list []api.File
}

// full: so many whole pieces.
func full(count int) []api.File { return pieces(bytesOf(count * 1024)) }

// with: a list with something behind it.
func with(list []api.File, more ...api.File) []api.File { return slices.Concat(list, more) }

// oddNames: names that no piece has, or not the first one.
func oddNames() []string {
	return strings.Fields("q p p0 p1 p00x p000 p001 P00 00 0 x00 pp0 p0a p0. p-0 p_0 p.0 p0-0 a z _ .p00 p01 p02 p10 p63 p64 p99 p100 p0000000000000")
}

// shapes: the forms that the promise and the example tell.
func shapes() []shape {
	var list []shape
	for _, name := range oddNames() {
		odd := plain("/"+name, "x")
		list = append(list, shape{"a name otherwise: " + name, []api.File{odd}},
			shape{"without bytes: " + name, []api.File{plain(odd.Path, "")}},
			shape{"a whole piece: " + name, []api.File{plain(odd.Path, text(1024))}},
			shape{"beside a whole state: " + name, with(full(3), plain(odd.Path+"-", "x"))},
			shape{"without bytes, beside a whole state: " + name, with(full(3), plain(odd.Path+"-", ""))})
		if name != "p01" {
			list = append(list, shape{"behind one piece: " + name, with(full(1), odd)})
		}
	}
	gaps := []shape{
		{"a gap: the first", full(3)[1:]},
		{"a gap: the second", slices.Delete(full(3), 1, 2)},
		{"a gap: p09", slices.Delete(full(12), 9, 10)},
		{"a gap: p10", slices.Delete(full(12), 10, 11)},
		{"a gap: p62", slices.Delete(full(64), 62, 63)},
		{"a gap: p63, and p64 beyond", with(full(63), plain("/p64", "x"))},
		{"numbers from 1 on", with(full(64)[1:], plain("/p64", "x"))},
	}
	lengths := []shape{
		{"the first of two is shorter", []api.File{plain("/p00", text(1023)), plain("/p01", text(1024))}},
		{"the first of two has a byte", []api.File{plain("/p00", "x"), plain("/p01", "y")}},
		{"the first of two has none", []api.File{plain("/p00", ""), plain("/p01", "y")}},
		{"the middle one is shorter", []api.File{plain("/p00", text(1024)), plain("/p01", text(1023)), plain("/p02", "x")}},
		{"the middle one has none", []api.File{plain("/p00", text(1024)), plain("/p01", ""), plain("/p02", "x")}},
		{"the last but one of 64 is shorter", with(with(full(62), plain("/p62", text(1023))), plain("/p63", "x"))},
		{"one without bytes alone", []api.File{plain("/p00", "")}},
		{"the last has no bytes", with(full(1), plain("/p01", ""))},
		{"the last two have no bytes", with(full(1), plain("/p01", ""), plain("/p02", ""))},
		{"the last of 64 has no bytes", with(full(63), plain("/p63", ""))},
	}
	return slices.Concat(list, gaps, lengths, dirShapes())
}

// dirShapes: directories among the files, and files below them.
func dirShapes() []shape {
	below := func(dir string, list []api.File) []api.File {
		out := []api.File{folder(dir)}
		for _, f := range list {
			f.Path = dir + f.Path
			out = append(out, f)
		}
		return out
	}
	return []shape{
		{"a directory alone", []api.File{folder("/p00")}},
		{"a directory of another name alone", []api.File{folder("/d")}},
		{"a directory behind a piece", with(full(1), folder("/p01"))},
		{"a directory of another name behind a piece", with(full(1), folder("/q"))},
		{"a directory ahead of a piece", []api.File{folder("/a"), plain("/p00", "x")}},
		{"a directory in the middle", []api.File{plain("/p00", text(1024)), folder("/p01"), plain("/p02", "x")}},
		{"a directory as the last of 64", with(full(63), folder("/p63"))},
		{"a file below a directory alone", below("/p00", full(1))},
		{"a file below a directory", with(full(1), below("/p01", []api.File{plain("/p01", "x")})...)},
		{"a piece below a directory of another name", with(full(1), below("/q", []api.File{plain("/p01", "x")})...)},
		{"a whole sealed tree below a directory", below("/d", full(3))},
		{"a sealed tree, and one below it", with(full(3), below("/p03", full(2))...)},
		{"more bytes than a state has", with(full(63), below("/p63", full(64))...)},
		{"the bytes of a state, the last piece one further down", with(full(63), below("/p63", full(1))...)},
		{"as many pieces as can be gone through", with(below("/d", full(64)), below("/e", full(64))...)},
	}
}

// P16.2: trees that aren't the sealed tree of a state.
func TestUnsealForm(t *testing.T) {
	for _, x := range shapes() {
		s := roomy()
		noUnseal(t, "P16.2: "+x.what, s, build(t, s, x.list...), api.ErrForm)
	}
}

// P16.2: more pieces than a state has: a 65th is one more than a directory has names.
func TestUnsealPieces(t *testing.T) {
	s := roomy()
	state := bytesOf(65 * 1024)
	for _, b := range byHand(state).blobs() {
		put(t, s, b)
	}
	noUnseal(t, "P16.2: 65 pieces", s, sha.Sum(byHand(state).root), api.ErrForm)
	unseals(t, "P16.2: 64 pieces", s, build(t, s, pieces(state[:65536])...), state[:65536])
}

// nested: a directory in a directory, so many of them, about what is there.
func nested(t *testing.T, s *blob.Store, count int, inner api.Digest) api.Digest {
	t.Helper()
	for range count {
		b, e := node.Encode(api.Node{Kind: api.NodeDir, Items: []api.Item{{Name: "d", Kind: api.NodeDir, Sum: inner}}})
		if e != api.OK {
			t.Fatalf("Encode: %d", e)
		}
		inner = put(t, s, b)
	}
	return inner
}

// P16.2: tree.Walk's error is told ahead of a form that is wrong, too.
func TestUnsealWalk(t *testing.T) {
	s := roomy()
	var many []api.File
	for i := range 8 {
		dir := "/" + strconv.Itoa(i)
		many = append(many, folder(dir))
		for j := range 64 {
			many = append(many, plain(dir+"/"+strconv.Itoa(j), ""))
		}
	}
	noUnseal(t, "P16.2: 520 paths", s, build(t, s, many...), api.ErrMany)
	noUnseal(t, "P16.2: 512 paths", s, build(t, s, slices.Delete(many, 1, 9)...), api.ErrForm)
	state := sealed(t, s, []byte("x"))
	noUnseal(t, "P16.2: nine names", s, nested(t, s, 8, state), api.ErrDeep)
	noUnseal(t, "P16.2: eight names", s, nested(t, s, 7, state), api.ErrForm)
	for _, x := range shapes()[:60] {
		s := roomy()
		root := build(t, s, x.list...)
		file := x.list[len(x.list)-1]
		if file.Data == "" {
			continue
		}
		d := sha.Sum(byHand([]byte(file.Data)).pieces[0].chunks[0])
		s.Spoil(d, 0, 1)
		noUnseal(t, "P16.2: broken, and "+x.what, s, root, api.ErrBroken)
		s.Drop(d)
		noUnseal(t, "P16.2: a chunk isn't there, and "+x.what, s, root, api.ErrLack)
	}
}

// whole: whether a list, in the order of its paths, is that of a sealed tree, by the chapter's words, and its state.
func whole(list []api.File) ([]byte, bool) {
	var state []byte
	for i, f := range list {
		last := i == len(list)-1
		if f.Dir || f.Path != fmt.Sprintf("/p%02d", i) || f.Data == "" || !last && len(f.Data) != 1024 {
			return nil, false
		}
		state = append(state, f.Data...)
	}
	return state, len(state) <= 65536
}

// bend: a list of a sealed tree with something else in it, or as it was.
func bend(r *rand.Rand, list []api.File) []api.File {
	at := r.Intn(len(list) + 1)
	odd := plain(fmt.Sprintf("/p%02d", r.Intn(66)), text(r.Intn(3)))
	if r.Intn(3) == 0 {
		odd.Path = "/" + oddNames()[r.Intn(len(oddNames()))]
	}
	kind := r.Intn(9)
	switch {
	case kind == 0:
		return with(list, odd)
	case kind == 1:
		return with(list, folder(odd.Path))
	case kind == 2:
		return with(list, folder("/d"), plain("/d/p00", "x"))
	case at == len(list) || kind > 6:
		return list
	case kind == 3:
		return slices.Delete(list, at, at+1)
	case kind == 4:
		list[at].Data = text([]int{0, 1, 1023, 1024}[r.Intn(4)])
	case kind == 5:
		list[at].Path = odd.Path
	case kind == 6:
		list[at] = folder(list[at].Path)
	}
	return list
}

// harmSome: now and then a few blobs are broken, or go.
func harmSome(r *rand.Rand, s *blob.Store) {
	all := slices.Collect(s.All())
	for range max(0, r.Intn(10)-7) {
		d := all[r.Intn(len(all))]
		if r.Intn(2) == 0 {
			s.Spoil(d, 0, 1)
		} else {
			s.Drop(d)
		}
	}
}

// P16.2: trees of chance, most of them nearly those of a state, and with blobs that are harmed: as the words and tree.Walk have it.
func TestUnsealChance(t *testing.T) {
	r := rand.New(rand.NewSource(162))
	codes := map[api.Errno]int{}
	for range 1500 {
		list := pieces(drawn(r, []int{0, 1, 1000, 1024, 1025, 2048, 3000, 11000}[r.Intn(8)]))
		for range r.Intn(3) {
			list = bend(r, list)
		}
		s := roomy()
		root, e := tree.Build(s, list)
		if e != api.OK { // a path twice
			continue
		}
		harmSome(r, s)
		if _, e := tree.Walk(s, root); e != api.OK {
			codes[e]++
			noUnseal(t, "P16.2: chance", s, root, e)
			continue
		}
		slices.SortFunc(list, func(a, b api.File) int { return strings.Compare(a.Path, b.Path) })
		state, ok := whole(list)
		if !ok {
			codes[api.ErrForm]++
			noUnseal(t, "P16.2: chance", s, root, api.ErrForm)
			continue
		}
		codes[api.OK]++
		unseals(t, "P16.2: chance", s, root, state)
	}
	for _, e := range []api.Errno{api.OK, api.ErrForm, api.ErrLack, api.ErrBroken} {
		if codes[e] < 50 {
			t.Errorf("chance has made error %d %d times alone", e, codes[e])
		}
	}
}
