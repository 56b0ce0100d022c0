package tree_test

import (
	"math/rand"
	"slices"
	"strconv"
	"strings"
	"testing"

	"veneer/api"
	"veneer/blob"
	"veneer/sha"
	"veneer/tree"
	"veneer/vpath"
)

// example: the chapter's tree.
func example(t *testing.T, s *blob.Store) api.Digest {
	t.Helper()
	return build(t, s, folder("/a"), plain("/a/f", "hi"), plain("/b", ""))
}

// P7.3: the chapter's examples, each with its whole item.
func TestStat(t *testing.T) {
	s := roomy()
	root := example(t, s)
	f := put(t, s, file(2, put(t, s, chunk("hi"))))
	stats(t, "P7.3", s, root, nil, to("", api.NodeDir, root), 2)
	stats(t, "P7.3", s, root, []string{}, to("", api.NodeDir, root), 2)
	stats(t, "P7.3", s, root, words("a"), to("a", api.NodeDir, put(t, s, dir(to("f", api.NodeFile, f)))), 1)
	stats(t, "P7.3", s, root, words("a f"), to("f", api.NodeFile, f), 2)
	stats(t, "P7.3", s, root, words("b"), to("b", api.NodeFile, put(t, s, file(0))), 0)
	nothing(t, "P7.3", s, root, words("b x"), api.ErrNotDir)
	nothing(t, "P7.3", s, root, words("b x y"), api.ErrNotDir)
	nothing(t, "P7.3", s, root, words("a f x"), api.ErrNotDir)
	nothing(t, "P7.3", s, root, words("c"), api.ErrNone)
	nothing(t, "P7.3", s, root, words("c x"), api.ErrNone)
	nothing(t, "P7.3", s, root, words("a g"), api.ErrNone)
	nothing(t, "P7.3", s, root, words("f"), api.ErrNone)
	nothing(t, "P7.3", s, root, words("A"), api.ErrNone)
	empty := build(t, s)
	stats(t, "P7.3: an empty root", s, empty, nil, to("", api.NodeDir, empty), 0)
	nothing(t, "P7.3: an empty root", s, empty, words("a"), api.ErrNone)
}

// P7.3: at each depth, a directory and a file; a file's size, a directory's count.
func TestStatDepths(t *testing.T) {
	s := roomy()
	var list []api.File
	path := ""
	for depth := range 8 {
		list = append(list, plain(path+"/f", text(depth*100)), folder(path+"/d"))
		path += "/d"
	}
	root := build(t, s, list...)
	sum, names := root, []string(nil)
	for depth := range 8 {
		below := slices.Concat(names, words("f"))
		blobs := blobs(t, text(depth*100))
		stats(t, "P7.3", s, root, below, to("f", api.NodeFile, sha.Sum(blobs[len(blobs)-1])), depth*100)
		reads(t, "P7.4", s, root, below, text(depth*100))
		items, e := tree.List(s, root, names)
		if e != api.OK || len(items) != 2 || items[0].Name != "d" || items[1].Name != "f" {
			t.Fatalf("P7.4: List of %q: %s, %d", names, show(items), e)
		}
		last := ""
		if depth > 0 {
			last = "d"
		}
		stats(t, "P7.3", s, root, names, to(last, api.NodeDir, sum), 2)
		names = append(names, "d")
		sum = items[0].Sum
	}
	stats(t, "P7.3: the deepest", s, root, names, to("d", api.NodeDir, sum), 0)
	nothing(t, "P7.3: one deeper", s, root, append(names, "d"), api.ErrDeep)
}

// P7.3: names that aren't a path's, told ahead of all that is wrong with the tree.
func TestStatNames(t *testing.T) {
	s := roomy()
	root := example(t, s)
	for _, bad := range []string{"", ".", "..", "a/f", "/", "a b", "abcdefghijklmnopq", "\x00", "é"} {
		for _, names := range [][]string{{bad}, {"a", bad}, {bad, "f"}, {"b", bad}, {"c", bad}} {
			nothing(t, "P7.3: no name", s, root, names, api.ErrName)
			nothing(t, "P7.3: no name, no root", s, api.Digest{}, names, api.ErrName)
		}
	}
	nine := words("a b c d e f g h i")
	nothing(t, "P7.3: nine names", s, root, nine, api.ErrDeep)
	nothing(t, "P7.3: nine names, no root", s, api.Digest{}, nine, api.ErrDeep)
	nothing(t, "P7.3: nine names, one that is none", s, root, append(nine, ".."), api.ErrName)
	nothing(t, "P7.3: eight names", s, root, nine[:8], api.ErrNone)
	nothing(t, "P7.3: many names", s, root, make([]string, 1<<16), api.ErrName)
	nothing(t, "P7.3: many names", s, root, slices.Repeat(words("a"), 1<<16), api.ErrDeep)
}

// P7.3, P7.5: a root that can't be got as a directory.
func TestRoots(t *testing.T) {
	s := roomy()
	roots := map[api.Digest]api.Errno{{}: api.ErrLack, {1}: api.ErrLack}
	roots[put(t, s, chunk("ab"))] = api.ErrForm
	roots[put(t, s, file(0))] = api.ErrForm
	roots[put(t, s, file(1, put(t, s, chunk("x"))))] = api.ErrForm
	for _, b := range []string{"", "\x03", "\x03\x00\x00", "\x04", "some text"} {
		d, _ := s.Put([]byte(b))
		roots[d] = api.ErrForm
	}
	for e := range harms() {
		d := build(t, s, plain("/f", e.Error()))
		harm(t, s, d, e)
		roots[d] = e
	}
	good := build(t, s, folder("/a"))
	for root, e := range roots {
		for _, path := range []string{"", "a", "f", "f x", "a b c"} {
			nothing(t, "P7.3", s, root, words(path), e)
		}
		noWalk(t, "P7.5", s, root, e)
		noDiff(t, "P7.6: the first", s, root, good, e)
		noDiff(t, "P7.6: the second", s, good, root, e)
		noDiff(t, "P7.6: both", s, root, root, e)
	}
}

// P7.3, P7.5: a directory or a file below the root that can't be got: asked itself, asked through, and gone through.
func TestBelow(t *testing.T) {
	s := roomy()
	sums := map[api.Digest]api.Errno{{}: api.ErrLack, put(t, s, chunk("x")): api.ErrForm}
	junk, _ := s.Put([]byte("junk"))
	sums[junk] = api.ErrForm
	broken := put(t, s, dir(to("q", api.NodeFile, api.Digest{})))
	harm(t, s, broken, api.ErrBroken)
	sums[broken] = api.ErrBroken
	isFile, isDir := put(t, s, file(0)), put(t, s, dir())
	for kind, other := range map[int]api.Digest{api.NodeFile: isDir, api.NodeDir: isFile} {
		all := map[api.Digest]api.Errno{other: api.ErrForm}
		for d, e := range sums {
			all[d] = e
		}
		for d, e := range all {
			sub := put(t, s, dir(to("bad", kind, d), to("good", api.NodeFile, isFile)))
			root := put(t, s, dir(to("good", api.NodeFile, isFile), to("sub", api.NodeDir, sub)))
			nothing(t, "P7.3: asked itself", s, root, words("sub bad"), e)
			through := e
			if kind == api.NodeFile {
				through = api.ErrNotDir // whether it could be got or not
			}
			nothing(t, "P7.3: asked through", s, root, words("sub bad x"), through)
			nothing(t, "P7.3: asked through", s, root, words("sub bad x y"), through)
			noWalk(t, "P7.5", s, root, e)
			stats(t, "P7.3: beside it", s, root, words("sub good"), to("good", api.NodeFile, isFile), 0)
			stats(t, "P7.3: above it", s, root, words("sub"), to("sub", api.NodeDir, sub), 2)
			lists(t, "P7.4: above it", s, root, words("sub"), to("bad", kind, d), to("good", api.NodeFile, isFile))
			noRead(t, "P7.4: above it", s, root, words("sub"), api.ErrIsDir)
			nothing(t, "P7.3: what isn't beside it", s, root, words("sub none"), api.ErrNone)
		}
	}
}

// P7.4: files of all sizes that the document names.
func TestRead(t *testing.T) {
	s := roomy()
	for _, size := range []int{0, 1, 63, 64, 65, 128, 1023, 1024} {
		root := build(t, s, folder("/d"), plain("/d/f", text(size)), plain("/e", "other"))
		reads(t, "P7.4", s, root, words("d f"), text(size))
		noRead(t, "P7.4: a directory", s, root, words("d"), api.ErrIsDir)
		noRead(t, "P7.4: the root", s, root, nil, api.ErrIsDir)
	}
}

// single: a tree with one file /f of a node.
func single(t *testing.T, s *blob.Store, n api.Node) api.Digest {
	t.Helper()
	return put(t, s, dir(to("f", api.NodeFile, put(t, s, n))))
}

// noData: Read of /f and Walk must answer this error; Stat doesn't look at chunks.
func noData(t *testing.T, what string, s *blob.Store, n api.Node, want api.Errno) {
	t.Helper()
	root := single(t, s, n)
	noRead(t, what, s, root, words("f"), want)
	noWalk(t, what, s, root, want)
	stats(t, what, s, root, words("f"), to("f", api.NodeFile, put(t, s, n)), n.Size)
	noList(t, what, s, root, words("f"), api.ErrNotDir)
}

// P7.4: a chunk at each place that is missing, broken, of another kind, of another length.
func TestReadChunks(t *testing.T) {
	s := roomy()
	data := text(3*api.ChunkLen + 10)
	var parts []api.Digest
	for piece := range slices.Chunk([]byte(data), api.ChunkLen) {
		parts = append(parts, put(t, s, chunk(string(piece))))
	}
	whole := file(len(data), parts...)
	reads(t, "P7.4", s, single(t, s, whole), words("f"), data)
	for i := range parts {
		for what, wrong := range wrongChunks(t, s, i == len(parts)-1) {
			n := whole
			n.Parts = slices.Clone(parts)
			n.Parts[i] = wrong.d
			noData(t, "P7.4: chunk "+strconv.Itoa(i)+": "+what, s, n, wrong.e)
		}
	}
}

// wrongChunk: a chunk that isn't the right one at its place, with the error that is told.
type wrongChunk struct {
	d api.Digest
	e api.Errno
}

// wrongChunks: one of each kind, for a piece of ChunkLen bytes or a last one of 10.
func wrongChunks(t *testing.T, s *blob.Store, last bool) map[string]wrongChunk {
	t.Helper()
	junk, _ := s.Put([]byte("no node"))
	list := map[string]wrongChunk{
		"missing": {api.Digest{9}, api.ErrLack}, "a file": {put(t, s, file(0)), api.ErrForm}, "a directory": {put(t, s, dir()), api.ErrForm}, "no node": {junk, api.ErrForm},
		"shorter": {put(t, s, chunk(text(63))), api.ErrForm}, "of one byte": {put(t, s, chunk("x")), api.ErrForm},
	}
	if last {
		list["shorter"] = wrongChunk{put(t, s, chunk(text(9))), api.ErrForm}
		list["longer"] = wrongChunk{put(t, s, chunk(text(11))), api.ErrForm}
		list["of 64 bytes"] = wrongChunk{put(t, s, chunk(text(64))), api.ErrForm}
	}
	broken := put(t, s, chunk("broken"))
	harm(t, s, broken, api.ErrBroken)
	list["broken"] = wrongChunk{broken, api.ErrBroken}
	return list
}

// P7.4: lengths that make up the size together, but not piece by piece.
func TestReadLengths(t *testing.T) {
	s := roomy()
	long, short := put(t, s, chunk(text(64))), put(t, s, chunk(text(63)))
	reads(t, "P7.4", s, single(t, s, file(127, long, short)), words("f"), text(64)+text(63))
	noData(t, "P7.4: the shorter one first", s, file(127, short, long), api.ErrForm)
	noData(t, "P7.4: the last one is longer", s, file(127, long, long), api.ErrForm)
	noData(t, "P7.4: the last one is shorter", s, file(128, long, short), api.ErrForm)
	noData(t, "P7.4: a chunk of a file of one byte", s, file(1, short), api.ErrForm)
	reads(t, "P7.4: one chunk twice", s, single(t, s, file(128, long, long)), words("f"), text(64)+text(64))
}

// P7.4, rule 1: of two chunks that can't be got the first; one that can't be got ahead of one of another length.
func TestReadFirst(t *testing.T) {
	s := roomy()
	good, short, other := put(t, s, chunk(text(64))), put(t, s, chunk("x")), put(t, s, dir())
	lost, broken := api.Digest{7}, put(t, s, chunk("y"))
	harm(t, s, broken, api.ErrBroken)
	for _, r := range []struct {
		parts []api.Digest
		e     api.Errno
	}{
		{[]api.Digest{lost, broken, other}, api.ErrLack},
		{[]api.Digest{broken, lost, other}, api.ErrBroken},
		{[]api.Digest{other, broken, lost}, api.ErrForm},
		{[]api.Digest{good, lost, broken}, api.ErrLack},
		{[]api.Digest{good, broken, lost}, api.ErrBroken},
		{[]api.Digest{short, good, lost}, api.ErrLack},
		{[]api.Digest{short, broken, lost}, api.ErrBroken},
		{[]api.Digest{short, good, good}, api.ErrForm},
	} {
		noData(t, "P7.4: "+show(r.e), s, file(192, r.parts...), r.e)
	}
}

// P7.4: a directory's items, in the order of their names.
func TestList(t *testing.T) {
	s := roomy()
	root := example(t, s)
	f := to("f", api.NodeFile, put(t, s, file(2, put(t, s, chunk("hi")))))
	a := to("a", api.NodeDir, put(t, s, dir(f)))
	b := to("b", api.NodeFile, put(t, s, file(0)))
	lists(t, "P7.4", s, root, nil, a, b)
	lists(t, "P7.4", s, root, words("a"), f)
	noList(t, "P7.4: a file", s, root, words("b"), api.ErrNotDir)
	noList(t, "P7.4: a file", s, root, words("a f"), api.ErrNotDir)
	lists(t, "P7.4: an empty root", s, build(t, s), nil)
	full := build(t, s, many("/m", 64)...)
	items, e := tree.List(s, full, words("m"))
	if e != api.OK || len(items) != 64 || !slices.IsSortedFunc(items, func(a, b api.Item) int { return strings.Compare(a.Name, b.Name) }) {
		t.Errorf("P7.4: 64 items: %s, %d", show(items), e)
	}
	kept := items[0]
	items[0].Name = "other"
	if again, _ := tree.List(s, full, words("m")); again[0] != kept {
		t.Error("rule 3: what List answered was written over, and is answered so")
	}
}

// P7.5: the order of paths isn't that of their texts.
func TestWalk(t *testing.T) {
	s := roomy()
	walks(t, "P7.5: the example", s, example(t, s), folder("/a"), plain("/a/f", "hi"), plain("/b", ""))
	walks(t, "P7.5: an empty root", s, build(t, s))
	list := []api.File{folder("/a"), folder("/a/b"), plain("/a/b/c", "1"), plain("/a/b-", "2"), plain("/a-", "3"), plain("/a.", "4"), folder("/a0"), plain("/b", text(1024))}
	walks(t, "P7.5: names that begin alike", s, build(t, s, list...), list...)
	walks(t, "P7.5", s, build(t, s, several()...), several()...)
}

// P7.5: one blob at several paths is told at each of them.
func TestWalkShared(t *testing.T) {
	s := roomy()
	f := put(t, s, file(2, put(t, s, chunk("hi"))))
	sub := put(t, s, dir(to("f", api.NodeFile, f), to("g", api.NodeFile, f)))
	root := put(t, s, dir(to("x", api.NodeDir, sub), to("y", api.NodeDir, sub)))
	walks(t, "P7.5", s, root, folder("/x"), plain("/x/f", "hi"), plain("/x/g", "hi"), folder("/y"), plain("/y/f", "hi"), plain("/y/g", "hi"))
}

// crowd: so many paths, in their order: directories of 31 files, and the rest of them in the root, behind.
func crowd(count int) []api.File {
	var list []api.File
	for i := 0; count-len(list) >= 32; i++ {
		path := "/d" + strconv.Itoa(10+i)
		list = append(list, folder(path))
		for j := range 31 {
			list = append(list, plain(path+"/"+strconv.Itoa(10+j), ""))
		}
	}
	for i := 0; len(list) < count; i++ {
		list = append(list, plain("/e"+strconv.Itoa(10+i), "x"))
	}
	return list
}

// P7.5: 512 paths, and 513; what is wrong at the last of them.
func TestWalkMany(t *testing.T) {
	s := roomy()
	for _, count := range []int{511, 512} {
		walks(t, "P7.5: "+strconv.Itoa(count), s, build(t, s, crowd(count)...), crowd(count)...)
	}
	most := build(t, s, crowd(512)...)
	more := build(t, s, crowd(513)...)
	noWalk(t, "P7.5: 513", s, more, api.ErrMany)
	noWalk(t, "P7.5: 700", s, build(t, s, crowd(700)...), api.ErrMany)
	noDiff(t, "P7.6: the first", s, more, most, api.ErrMany)
	noDiff(t, "P7.6: the second", s, most, more, api.ErrMany)
	differs(t, "P7.6: 512 of each", s, most, most)
	items, _ := tree.List(s, more, nil)
	for e := range harms() {
		own := s.Clone()
		harm(t, own, items[len(items)-1].Sum, e)
		noWalk(t, "P7.5: 513, the last file can't be got", own, more, api.ErrMany)
	}
	for e := range harms() {
		own := s.Clone()
		harm(t, own, items[len(items)-2].Sum, e)
		noWalk(t, "P7.5: 513, a directory ahead can't be got", own, more, e)
	}
}

// P7.5: a directory with ever the same one in it, 64 times: it ends all the same.
func TestWalkHuge(t *testing.T) {
	s := roomy()
	d := put(t, s, dir())
	for range 40 {
		var items []api.Item
		for i := range 64 {
			items = append(items, to(strconv.Itoa(10+i), api.NodeDir, d))
		}
		d = put(t, s, dir(items...))
	}
	noWalk(t, "P7.5", s, d, api.ErrDeep)
	for range 1000 {
		d = put(t, s, dir(to("d", api.NodeDir, d)))
	}
	noWalk(t, "P7.5", s, d, api.ErrDeep)
	stats(t, "P7.3", s, d, nil, to("", api.NodeDir, d), 1)
}

// chain: directories in one another, named d, the last with an item in it; the root's digest.
func chain(t *testing.T, s *blob.Store, count int, last ...api.Item) api.Digest {
	t.Helper()
	d := put(t, s, dir(last...))
	for range count {
		d = put(t, s, dir(to("d", api.NodeDir, d)))
	}
	return d
}

// P7.5: at MaxDepth, and one deeper; ErrDeep ahead of what can't be got there.
func TestWalkDeep(t *testing.T) {
	s := roomy()
	empty := put(t, s, file(0))
	list, e := tree.Walk(s, chain(t, s, 8))
	if e != api.OK || len(list) != 8 || list[7] != folder("/d/d/d/d/d/d/d/d") {
		t.Errorf("P7.5: eight directories: %s, %d", show(list), e)
	}
	list, e = tree.Walk(s, chain(t, s, 7, to("f", api.NodeFile, empty)))
	if e != api.OK || len(list) != 8 || list[7] != plain("/d/d/d/d/d/d/d/f", "") {
		t.Errorf("P7.5: a file at the greatest depth: %s, %d", show(list), e)
	}
	noWalk(t, "P7.5: nine directories", s, chain(t, s, 9), api.ErrDeep)
	noWalk(t, "P7.5: a file one deeper", s, chain(t, s, 8, to("f", api.NodeFile, empty)), api.ErrDeep)
	noWalk(t, "P7.5: one deeper, and it can't be got", s, chain(t, s, 8, to("f", api.NodeFile, api.Digest{})), api.ErrDeep)
	noWalk(t, "P7.5: at the greatest depth it can't be got", s, chain(t, s, 7, to("f", api.NodeFile, api.Digest{})), api.ErrLack)
	noWalk(t, "P7.5: ahead of it one can't be got", s, chain(t, s, 7, to("a", api.NodeFile, api.Digest{}), to("d", api.NodeDir, chain(t, s, 1))), api.ErrLack)
	noWalk(t, "P7.5: behind it one can't be got", s, chain(t, s, 7, to("d", api.NodeDir, chain(t, s, 1)), to("z", api.NodeFile, api.Digest{})), api.ErrDeep)
}

// P7.5: a path that is too deep is the one number 512, or the one number 513.
func TestWalkDeepMany(t *testing.T) {
	s := roomy()
	empty := put(t, s, file(0))
	deep := chain(t, s, 7, to("f", api.NodeFile, empty)) // below /z: /z and seven more, then a path of nine names
	for count, want := range map[int]api.Errno{503: api.ErrDeep, 504: api.ErrMany} {
		items, e := tree.List(s, build(t, s, crowd(count)...), nil)
		if e != api.OK {
			t.Fatal(e)
		}
		root := put(t, s, dir(append(items, to("z", api.NodeDir, deep))...))
		noWalk(t, "P7.5: behind "+strconv.Itoa(count), s, root, want)
	}
}

// met: a tree whose blobs are all unlike, and their digests in the order in which Walk gets them.
func met(t *testing.T, s *blob.Store) (api.Digest, []api.Digest) {
	t.Helper()
	c1, c2 := put(t, s, chunk(text(64))), put(t, s, chunk("rest"))
	f := put(t, s, file(68, c1, c2))
	c3 := put(t, s, chunk("g"))
	g := put(t, s, file(1, c3))
	empty := put(t, s, file(0))
	inner := put(t, s, dir(to("g", api.NodeFile, g)))
	a := put(t, s, dir(to("f", api.NodeFile, f), to("inner", api.NodeDir, inner)))
	hollow := put(t, s, dir())
	c4 := put(t, s, chunk("last"))
	z := put(t, s, file(4, c4))
	root := put(t, s, dir(to("a", api.NodeDir, a), to("a-", api.NodeFile, empty), to("h", api.NodeDir, hollow), to("z", api.NodeFile, z)))
	return root, []api.Digest{root, a, f, c1, c2, inner, g, c3, empty, hollow, z, c4}
}

// P7.5: one blob that can't be got at each place, and two of them: the one that is met first is told.
func TestWalkFirst(t *testing.T) {
	s := roomy()
	root, order := met(t, s)
	walks(t, "P7.5", s, root, folder("/a"), plain("/a/f", text(64)+"rest"), folder("/a/inner"), plain("/a/inner/g", "g"), plain("/a-", ""), folder("/h"), plain("/z", "last"))
	for i, first := range order {
		for e := range harms() {
			one := s.Clone()
			harm(t, one, first, e)
			noWalk(t, "P7.5: blob "+strconv.Itoa(i), one, root, e)
			noDiff(t, "P7.6: blob "+strconv.Itoa(i), one, root, build(t, one, plain("/other", "other")), e)
			for _, second := range order[i+1:] {
				two := one.Clone()
				harm(t, two, second, api.ErrLack+api.ErrBroken-e)
				noWalk(t, "P7.5: blob "+strconv.Itoa(i)+" ahead of another", two, root, e)
			}
		}
	}
}

// P7.6: the chapter's example, and paths added, removed and changed, in their order.
func TestDiff(t *testing.T) {
	s := roomy()
	one := example(t, s)
	differs(t, "P7.6: the same", s, one, one)
	two := build(t, s, folder("/a"), plain("/a/f", "hi"))
	differs(t, "P7.6: the example", s, one, two, api.Change{Path: "/b", What: api.Removed})
	differs(t, "P7.6: the other way round", s, two, one, api.Change{Path: "/b", What: api.Added})
	empty := build(t, s)
	differs(t, "P7.6: all goes", s, one, empty, api.Change{Path: "/a", What: api.Removed}, api.Change{Path: "/a/f", What: api.Removed}, api.Change{Path: "/b", What: api.Removed})
	differs(t, "P7.6: all comes", s, empty, one, api.Change{Path: "/a", What: api.Added}, api.Change{Path: "/a/f", What: api.Added}, api.Change{Path: "/b", What: api.Added})
	differs(t, "P7.6: nothing", s, empty, empty)
}

// P7.6: a file for a directory, the other way round, other data; nothing of a directory whose items differ.
func TestDiffKinds(t *testing.T) {
	s := roomy()
	was := build(t, s, folder("/a"), plain("/a/x", "1"), plain("/a-b", "1"), plain("/c", "1"), folder("/d"), folder("/d/e"), plain("/same", "s"), plain("/z", ""))
	is := build(t, s, plain("/a", "1"), plain("/a-b", "2"), folder("/c"), plain("/c/y", "1"), folder("/d"), folder("/d/e"), plain("/d/e/f", ""), plain("/same", "s"), plain("/z", "z"))
	differs(t, "P7.6", s, was, is,
		api.Change{Path: "/a", What: api.Changed}, api.Change{Path: "/a/x", What: api.Removed}, api.Change{Path: "/a-b", What: api.Changed}, api.Change{Path: "/c", What: api.Changed},
		api.Change{Path: "/c/y", What: api.Added}, api.Change{Path: "/d/e/f", What: api.Added}, api.Change{Path: "/z", What: api.Changed})
	differs(t, "P7.6: the other way round", s, is, was,
		api.Change{Path: "/a", What: api.Changed}, api.Change{Path: "/a/x", What: api.Added}, api.Change{Path: "/a-b", What: api.Changed}, api.Change{Path: "/c", What: api.Changed},
		api.Change{Path: "/c/y", What: api.Removed}, api.Change{Path: "/d/e/f", What: api.Removed}, api.Change{Path: "/z", What: api.Changed})
	hollow, blank := build(t, s, folder("/e")), build(t, s, plain("/e", ""))
	differs(t, "P7.6: an empty directory, a file of no bytes", s, hollow, blank, api.Change{Path: "/e", What: api.Changed})
	differs(t, "P7.6: a file of no bytes, an empty directory", s, blank, hollow, api.Change{Path: "/e", What: api.Changed})
}

// P7.6: the order is that of paths, with those of both trees among one another.
func TestDiffOrder(t *testing.T) {
	s := roomy()
	was := build(t, s, folder("/a"), plain("/a/b", ""), plain("/a.", ""), plain("/c", ""))
	is := build(t, s, folder("/a"), plain("/a/a", ""), plain("/a/c", ""), plain("/a-", ""), plain("/b", ""), plain("/d", ""))
	want := []api.Change{
		{Path: "/a/a", What: api.Added}, {Path: "/a/b", What: api.Removed}, {Path: "/a/c", What: api.Added}, {Path: "/a-", What: api.Added},
		{Path: "/a.", What: api.Removed}, {Path: "/b", What: api.Added}, {Path: "/c", What: api.Removed}, {Path: "/d", What: api.Added},
	}
	differs(t, "P7.6", s, was, is, want...)
	for i := range want {
		want[i].What = api.Added + api.Removed - want[i].What
	}
	differs(t, "P7.6: the other way round", s, is, was, want...)
	far, other := build(t, s, crowd(512)...), build(t, s, several()...)
	list, e := tree.Diff(s, far, other)
	if e != api.OK || len(list) != 512+len(several()) {
		t.Errorf("P7.6: nothing in common: %d changes, %d", len(list), e)
	}
}

// P7.6: paths beside one another at each depth.
func TestDiffDeep(t *testing.T) {
	s := roomy()
	path := ""
	var above []api.File
	for range 8 {
		list := slices.Clone(above)
		var without []api.File
		for _, name := range words("1 2 3 4") {
			list = append(list, plain(path+"/"+name, ""))
			if name != "2" && name != "4" {
				without = append(without, list[len(list)-1])
			}
		}
		all, some := build(t, s, list...), build(t, s, append(without, above...)...)
		differs(t, "P7.6", s, all, some, api.Change{Path: path + "/2", What: api.Removed}, api.Change{Path: path + "/4", What: api.Removed})
		differs(t, "P7.6", s, some, all, api.Change{Path: path + "/2", What: api.Added}, api.Change{Path: path + "/4", What: api.Added})
		path += "/d"
		above = append(above, folder(path))
	}
}

// P7.6: the error of the first tree ahead of the second's.
func TestDiffErrors(t *testing.T) {
	s := roomy()
	good := example(t, s)
	wrong := map[api.Errno]api.Digest{api.ErrLack: {5}, api.ErrForm: put(t, s, file(0)), api.ErrMany: build(t, s, crowd(513)...), api.ErrDeep: chain(t, s, 9)}
	broken := build(t, s, plain("/broken", ""))
	harm(t, s, broken, api.ErrBroken)
	wrong[api.ErrBroken] = broken
	for e, one := range wrong {
		noDiff(t, "P7.6: the first", s, one, good, e)
		noDiff(t, "P7.6: the second", s, good, one, e)
		for _, two := range wrong {
			noDiff(t, "P7.6: both", s, one, two, e)
		}
	}
}

// changesOf: what the promise's words say of two lists.
func changesOf(was, is []api.File) []api.Change {
	find := func(list []api.File, path string) (api.File, bool) {
		i := slices.IndexFunc(list, func(f api.File) bool { return f.Path == path })
		if i < 0 {
			return api.File{}, false
		}
		return list[i], true
	}
	var out []api.Change
	for _, f := range was {
		if now, there := find(is, f.Path); !there {
			out = append(out, api.Change{Path: f.Path, What: api.Removed})
		} else if now.Dir != f.Dir || now.Data != f.Data {
			out = append(out, api.Change{Path: f.Path, What: api.Changed})
		}
	}
	for _, f := range is {
		if _, there := find(was, f.Path); !there {
			out = append(out, api.Change{Path: f.Path, What: api.Added})
		}
	}
	slices.SortFunc(out, func(a, b api.Change) int {
		one, _ := vpath.Parse(a.Path)
		two, _ := vpath.Parse(b.Path)
		return vpath.Compare(one, two)
	})
	return out
}

// P7.6, P7.7: trees of chance: the changes are those of the words; there are none just if the roots are the same.
func TestDiffChance(t *testing.T) {
	r := rand.New(rand.NewSource(70))
	s := roomy()
	var lists [][]api.File
	var roots []api.Digest
	for len(lists) < 90 {
		list := chance(r)
		if len(lists)%3 == 2 { // near to the one ahead
			list = slices.Clone(lists[len(lists)-1])
			if len(list) > 0 && r.Intn(3) > 0 {
				list = slices.Delete(list, len(list)-1, len(list))
			}
		}
		if model(list) == api.OK {
			lists, roots = append(lists, list), append(roots, build(t, s, list...))
		}
	}
	for i, a := range roots {
		for j, b := range roots {
			want := changesOf(lists[i], lists[j])
			differs(t, "P7.6", s, a, b, want...)
			if (a == b) != (len(want) == 0) {
				t.Fatalf("P7.7: %s and %s: %d changes, one root: %t", show(lists[i]), show(lists[j]), len(want), a == b)
			}
		}
	}
}

// P7.7: what was told by Walk is built again, in another store, to the same root.
func TestRebuild(t *testing.T) {
	s := roomy()
	root, _ := met(t, s)
	list, _ := tree.Walk(s, root)
	own := roomy()
	if again := build(t, own, list...); again != root || state(own) != state(s) {
		t.Error("P7.7: another root, or other blobs")
	}
	list, _ = tree.Walk(s, build(t, s, crowd(512)...))
	if again := build(t, roomy(), list...); again != build(t, s, crowd(512)...) {
		t.Error("P7.7: 512 paths: another root")
	}
}

// Rule 2: with a nil store each call answers ErrNil, ahead of all else.
func TestNil(t *testing.T) {
	for _, size := range []int{0, 1, 1025} {
		if d, e := tree.Write(nil, text(size)); e != api.ErrNil || d != (api.Digest{}) {
			t.Errorf("Write: %x, %d; want ErrNil alone", d, e)
		}
	}
	lists := [][]api.File{nil, several()}
	for _, f := range faults() {
		lists = append(lists, f.list)
	}
	for _, list := range lists {
		if d, e := tree.Build(nil, list); e != api.ErrNil || d != (api.Digest{}) {
			t.Errorf("Build of %s: %x, %d; want ErrNil alone", show(list), d, e)
		}
	}
	for _, path := range []string{"", "a", "..", "a b c d e f g h i"} {
		nothing(t, "a nil store", nil, api.Digest{}, words(path), api.ErrNil)
	}
	noWalk(t, "a nil store", nil, api.Digest{}, api.ErrNil)
	noDiff(t, "a nil store", nil, api.Digest{}, api.Digest{1}, api.ErrNil)
}

// Rule 3: what is handed in isn't changed, its spare room neither, and isn't kept.
func TestArguments(t *testing.T) {
	s := roomy()
	list := append(slices.Clone(several()), plain("spare", "room"))
	slices.Reverse(list[:len(list)-1])
	kept := slices.Clone(list)
	root := build(t, s, list[:len(list)-1]...)
	refuses(t, "a path that is none", s, list, api.ErrPath)
	if !slices.Equal(list, kept) {
		t.Error("rule 3: Build changed its list")
	}
	clear(list)
	walks(t, "rule 3", s, root, several()...)
	names := append(words("a a x"), "spare")
	for range 2 {
		reads(t, "rule 3", s, root, names[:3], text(70))
		noList(t, "rule 3", s, root, names[:3], api.ErrNotDir)
		if _, _, e := tree.Stat(s, root, names[:3]); e != api.OK || !slices.Equal(names, words("a a x spare")) {
			t.Errorf("rule 3: %d, the names are %q", e, names)
		}
	}
}

// Rule 3: what is answered is new memory, and what is written there is not seen again.
func TestAnswers(t *testing.T) {
	s := roomy()
	root, other := build(t, s, several()...), build(t, s)
	for range 2 {
		list, _ := tree.Walk(s, root)
		if !slices.Equal(list, several()) {
			t.Fatal("rule 3: Walk's answer was written over, and is answered so")
		}
		clear(list[:cap(list)])
		items, _ := tree.List(s, root, nil)
		if len(items) != 6 || items[0].Name != "a" {
			t.Fatal("rule 3: List's answer was written over, and is answered so")
		}
		clear(items[:cap(items)])
		changes, _ := tree.Diff(s, root, other)
		if len(changes) != len(several()) || changes[0].Path != "/a" {
			t.Fatal("rule 3: Diff's answer was written over, and is answered so")
		}
		clear(changes[:cap(changes)])
	}
}

// Rules 4 and 5: what only reads leaves the store as it was, whatever it answers.
func TestReaders(t *testing.T) {
	s := roomy()
	root, order := met(t, s)
	harm(t, s, order[4], api.ErrBroken)
	harm(t, s, order[7], api.ErrLack)
	was := state(s)
	for range 2 {
		noWalk(t, "rule 4", s, root, api.ErrBroken)
		noDiff(t, "rule 4", s, root, root, api.ErrBroken)
		noRead(t, "rule 4", s, root, words("a f"), api.ErrBroken)
		noRead(t, "rule 4", s, root, words("a inner g"), api.ErrLack)
		nothing(t, "rule 4", s, root, words("q"), api.ErrNone)
		reads(t, "rule 4", s, root, words("z"), "last")
		if state(s) != was {
			t.Fatal("rule 4: the store is another one")
		}
	}
}
