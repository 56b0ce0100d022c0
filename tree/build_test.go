package tree_test

import (
	"fmt"
	"math/rand"
	"slices"
	"strconv"
	"strings"
	"testing"

	"veneer/api"
	"veneer/blob"
	"veneer/node"
	"veneer/sha"
	"veneer/tree"
	"veneer/vpath"
)

// blobs: a file's, as the chapter's words have them, made without the layer; the node's is the last.
func blobs(t *testing.T, data string) [][]byte {
	t.Helper()
	var out [][]byte
	n := file(len(data))
	for at := 0; at < len(data); at += api.ChunkLen {
		b, e := node.Encode(chunk(data[at:min(at+api.ChunkLen, len(data))]))
		if e != api.OK {
			t.Fatalf("a chunk: %d", e)
		}
		out = append(out, b)
		n.Parts = append(n.Parts, sha.Sum(b))
	}
	b, e := node.Encode(n)
	if e != api.OK {
		t.Fatalf("a file: %d", e)
	}
	return append(out, b)
}

// sums: the digests of blobs.
func sums(list [][]byte) []api.Digest {
	var out []api.Digest
	for _, b := range list {
		out = append(out, sha.Sum(b))
	}
	return out
}

// weigh: how many bytes blobs have together.
func weigh(list [][]byte) int { return len(slices.Concat(list...)) }

// P7.1: a file is its chunks, and a node that names them.
func TestWrite(t *testing.T) {
	for size, count := range map[int]int{0: 1, 1: 2, 63: 2, 64: 2, 65: 3, 128: 3, 129: 4, 1023: 17, 1024: 17} {
		s := roomy()
		want := blobs(t, text(size))
		d, e := tree.Write(s, text(size))
		if e != api.OK || d != sha.Sum(want[len(want)-1]) {
			t.Errorf("P7.1: %d bytes: %x, %d", size, d, e)
		}
		if s.Count() != count {
			t.Errorf("P7.1: %d bytes: %d blobs, want %d", size, s.Count(), count)
		}
		holds(t, "P7.1", s, sums(want)...)
		again, e := tree.Write(s, text(size))
		if e != api.OK || again != d || s.Count() != count {
			t.Errorf("P7.1: %d bytes again: %x, %d, %d blobs", size, again, e, s.Count())
		}
	}
}

// P7.1: pieces that are alike are one blob; the node names it as often as it comes.
func TestWriteAlike(t *testing.T) {
	s := roomy()
	data := strings.Repeat("x", 3*api.ChunkLen+1)
	d, e := tree.Write(s, data)
	if e != api.OK || s.Count() != 3 {
		t.Errorf("P7.1: %d, %d blobs, want 3", e, s.Count())
	}
	root := put(t, s, dir(to("f", api.NodeFile, d)))
	reads(t, "P7.1", s, root, words("f"), data)
}

// P7.1: bytes of any kind.
func TestWriteBytes(t *testing.T) {
	s := roomy()
	data := make([]byte, 256)
	for i := range data {
		data[i] = byte(255 - i)
	}
	d, e := tree.Write(s, string(data))
	if e != api.OK {
		t.Fatalf("P7.1: %d", e)
	}
	root := put(t, s, dir(to("f", api.NodeFile, d)))
	reads(t, "P7.1", s, root, words("f"), string(data))
}

// P7.1: what is above the limit is refused, whatever room there is, and nothing is put.
func TestWriteBig(t *testing.T) {
	for _, s := range []*blob.Store{roomy(), blob.New(0)} {
		for _, size := range []int{1025, 1088, 1 << 20} {
			if d, e := tree.Write(s, text(size)); e != api.ErrBig || d != (api.Digest{}) || s.Count() != 0 {
				t.Errorf("P7.1: %d bytes: %x, %d, %d blobs; want ErrBig alone", size, d, e, s.Count())
			}
		}
	}
}

// P7.1: a store without room for all of the blobs takes none of them.
func TestWriteFull(t *testing.T) {
	for _, size := range []int{0, 1, 64, 65, 1024} {
		list := blobs(t, text(size))
		all := weigh(list)
		for _, quota := range []int{0, 1, all - 1} {
			s := blob.New(quota)
			if d, e := tree.Write(s, text(size)); e != api.ErrFull || d != (api.Digest{}) || s.Count() != 0 {
				t.Errorf("P7.1: %d bytes, room for %d: %x, %d, %d blobs; want ErrFull alone", size, quota, d, e, s.Count())
			}
		}
		if _, e := tree.Write(blob.New(all), text(size)); e != api.OK {
			t.Errorf("P7.1: %d bytes, room for all: %d", size, e)
		}
	}
	list := blobs(t, text(65))
	s := blob.New(weigh(list))
	if _, e := s.Put(list[0]); e != api.OK {
		t.Fatal(e)
	}
	if _, e := tree.Write(s, text(65)); e != api.OK {
		t.Errorf("P7.1: a piece that is there needs no room again: %d", e)
	}
}

// P7.1: a piece that is broken is whole again.
func TestWriteMends(t *testing.T) {
	s := roomy()
	d, _ := tree.Write(s, text(100))
	for _, sum := range sums(blobs(t, text(100))) {
		harm(t, s, sum, api.ErrBroken)
	}
	again, e := tree.Write(s, text(100))
	if e != api.OK || again != d {
		t.Errorf("P7.1: %x, %d", again, e)
	}
	root := put(t, s, dir(to("f", api.NodeFile, d)))
	reads(t, "P7.1", s, root, words("f"), text(100))
}

// P7.2: the chapter's examples; the tree is these blobs and no others.
func TestBuild(t *testing.T) {
	s := roomy()
	root := build(t, s, folder("/a"), plain("/a/f", "hi"), plain("/b", ""))
	own := roomy()
	hi := put(t, own, chunk("hi"))
	f := put(t, own, file(2, hi))
	b := put(t, own, file(0))
	a := put(t, own, dir(to("f", api.NodeFile, f)))
	want := put(t, own, dir(to("a", api.NodeDir, a), to("b", api.NodeFile, b)))
	if root != want {
		t.Errorf("P7.2: the root is %x, want %x", root, want)
	}
	holds(t, "P7.2", s, hi, f, b, a, want)
	walks(t, "P7.2", s, root, folder("/a"), plain("/a/f", "hi"), plain("/b", ""))
	if d, e := tree.Build(roomy(), []api.File{plain("/a/f", "hi")}); e != api.ErrNone || d != (api.Digest{}) {
		t.Errorf("P7.2: a path alone: %x, %d; want ErrNone alone", d, e)
	}
}

// P7.2: a list that is empty is a root without items.
func TestBuildEmpty(t *testing.T) {
	for _, list := range [][]api.File{nil, {}, make([]api.File, 0, 4)} {
		s := roomy()
		root := build(t, s, list...)
		if want := sha.Sum([]byte{3, 0}); root != want {
			t.Errorf("P7.2: the root is %x, want %x", root, want)
		}
		holds(t, "P7.2", s, root)
	}
}

// P7.2: files of all sizes that the document names.
func TestBuildSizes(t *testing.T) {
	for _, size := range []int{0, 1, 64, 65, 1023, 1024} {
		s := roomy()
		list := blobs(t, text(size))
		d := sha.Sum(list[len(list)-1])
		root := build(t, s, plain("/f", text(size)))
		if want := put(t, roomy(), dir(to("f", api.NodeFile, d))); root != want {
			t.Errorf("P7.2: %d bytes: the root is %x, want %x", size, root, want)
		}
		holds(t, "P7.2", s, append(sums(list), root)...)
	}
}

// several: a list that has everything: empty directories, files of no bytes, names that begin alike, the greatest depth.
func several() []api.File {
	return []api.File{
		folder("/a"), folder("/a/a"), plain("/a/a/x", text(70)), plain("/a/b", ""), folder("/a/c"), plain("/a-b", "1"), plain("/a.b", "2"), plain("/aa", "1"),
		folder("/d"), folder("/d/d"), folder("/d/d/d"), folder("/d/d/d/d"), folder("/d/d/d/d/d"), folder("/d/d/d/d/d/d"), folder("/d/d/d/d/d/d/d"),
		plain("/d/d/d/d/d/d/d/e", "deep"), folder("/d/d/d/d/d/d/d/f"), plain("/z", text(1024)),
	}
}

// P7.2, P7.7: a list in any order, with any texts of its paths, has one root.
func TestBuildOrder(t *testing.T) {
	s := roomy()
	list := several()
	root := build(t, s, list...)
	walks(t, "P7.7", s, root, list...)
	r := rand.New(rand.NewSource(7))
	for range 60 {
		mixed := slices.Clone(list)
		r.Shuffle(len(mixed), func(i, j int) { mixed[i], mixed[j] = mixed[j], mixed[i] })
		for i := range mixed {
			mixed[i].Path = spell(r, mixed[i].Path)
		}
		own := roomy()
		if got := build(t, own, mixed...); got != root {
			t.Fatalf("P7.7: %s: another root", show(mixed))
		}
		if state(own) != state(s) {
			t.Fatalf("P7.2: %s: other blobs", show(mixed))
		}
	}
	slices.Reverse(list)
	if got := build(t, roomy(), list...); got != root {
		t.Error("P7.7: from the last to the first: another root")
	}
}

// spell: a clean path's text in some other form.
func spell(r *rand.Rand, path string) string {
	forms := []string{"/", "//", "/./", "/x/../", "/../"}
	first := forms[r.Intn(len(forms))] // ahead of the first name .. takes nothing away
	rest := forms[:len(forms)-1]
	out := first
	for i, name := range strings.Split(path[1:], "/") {
		if i > 0 {
			out += rest[r.Intn(len(rest))]
		}
		out += name
	}
	return out + []string{"", "/", "/.", "/y/.."}[r.Intn(4)]
}

// fault: a list that Build refuses, with the error that it answers.
type fault struct {
	what string
	e    api.Errno
	list []api.File
}

// many: a directory with so many names, told behind them.
func many(path string, count int) []api.File {
	var list []api.File
	for i := range count {
		list = append(list, plain(path+"/"+strconv.Itoa(1000+i), ""))
	}
	return append(list, folder(path))
}

// faults: lists that have one thing wrong each, in the order in which the promise names them; no two have a path in common.
func faults() []fault {
	return []fault{
		{"no path", api.ErrPath, []api.File{plain("none", "")}},
		{"a directory with data", api.ErrArg, []api.File{{Path: "/arg", Dir: true, Data: "x"}}},
		{"data above the limit", api.ErrBig, []api.File{plain("/big", text(1025))}},
		{"a path twice", api.ErrThere, []api.File{plain("/there", ""), plain("//there/", "")}},
		{"a directory that isn't told", api.ErrNone, []api.File{plain("/lack/x", "")}},
		{"a directory that is a file", api.ErrNotDir, []api.File{plain("/f", ""), plain("/f/x", "")}},
		{"a directory of 65 names", api.ErrMany, many("/many", 65)},
	}
}

// refuses: Build must answer this error alone, and leave the store as it was.
func refuses(t *testing.T, what string, s *blob.Store, list []api.File, want api.Errno) {
	t.Helper()
	was := state(s)
	if d, e := tree.Build(s, list); e != want || d != (api.Digest{}) {
		t.Errorf("%s: Build: %x, %d; want %d alone", what, d, e, want)
	}
	if state(s) != was {
		t.Errorf("%s: Build changed the store", what)
	}
}

// P7.2, rule 4: each error alone, and ahead of it, behind it, on both sides what is right.
func TestBuildRefuses(t *testing.T) {
	s := roomy()
	build(t, s, several()...)
	for _, f := range faults() {
		refuses(t, "P7.2: "+f.what, s, f.list, f.e)
		refuses(t, "P7.2: behind others: "+f.what, s, append(several(), f.list...), f.e)
		refuses(t, "P7.2: ahead of others: "+f.what, s, append(slices.Clone(f.list), several()...), f.e)
	}
}

// P7.2, rule 1: of two errors the one that the promise names first, wherever in the list they are.
func TestBuildFirst(t *testing.T) {
	list := faults()
	for i, f := range list {
		refuses(t, "P7.2: no room: "+f.what, blob.New(0), f.list, f.e)
		for _, g := range list[i+1:] {
			what := fmt.Sprintf("P7.2: %s; %s", f.what, g.what)
			refuses(t, what, roomy(), slices.Concat(f.list, g.list), f.e)
			refuses(t, what+", in the other order", roomy(), slices.Concat(g.list, f.list), f.e)
		}
	}
}

// P7.2: the error of the first path that has one, of Parse's four.
func TestBuildPaths(t *testing.T) {
	texts := map[string]api.Errno{
		"/" + text(256): api.ErrLong, strings.Repeat("/", 257): api.ErrLong, "": api.ErrPath, "a": api.ErrPath, "/a b": api.ErrPath, "a/": api.ErrPath, "/\x00": api.ErrPath,
		"/abcdefghijklmnopq": api.ErrName, "/a/b/c/d/e/f/g/h/i": api.ErrDeep,
	}
	for one, e := range texts {
		refuses(t, "P7.2: "+one, roomy(), []api.File{folder(one)}, e)
		refuses(t, "P7.2: "+one, roomy(), []api.File{plain("/a", ""), plain(one, "x")}, e)
		for two := range texts {
			refuses(t, "P7.2: "+one+" ahead of "+two, roomy(), []api.File{folder("/a"), plain(one, ""), plain(two, "")}, e)
		}
	}
	if d, e := tree.Build(roomy(), []api.File{plain("/abcdefghijklmnop", "")}); e != api.OK {
		t.Errorf("P7.2: a name of 16 bytes: %x, %d", d, e)
	}
	if d, e := tree.Build(roomy(), []api.File{plain(strings.Repeat("/", 255)+"a", "")}); e != api.OK {
		t.Errorf("P7.2: a text of 256 bytes: %x, %d", d, e)
	}
}

// P7.2: data at a directory, and data above the limit.
func TestBuildData(t *testing.T) {
	refuses(t, "P7.2: a directory with much data", roomy(), []api.File{{Path: "/a", Dir: true, Data: text(1025)}}, api.ErrArg)
	refuses(t, "P7.2: the root with data", roomy(), []api.File{{Path: "/", Dir: true, Data: "x"}}, api.ErrArg)
	refuses(t, "P7.2: the root as a file with much data", roomy(), []api.File{plain("/", text(1025))}, api.ErrBig)
	refuses(t, "P7.2: much data behind", roomy(), []api.File{plain("/a", text(1024)), plain("/b", text(1025))}, api.ErrBig)
}

// P7.2: the root told, in any text; one path told twice, in any texts and as anything.
func TestBuildThere(t *testing.T) {
	for _, root := range []string{"/", "//", "/.", "/..", "/a/..", "/a/../../."} {
		refuses(t, "P7.2: "+root, roomy(), []api.File{folder(root)}, api.ErrThere)
		refuses(t, "P7.2: "+root, roomy(), []api.File{plain(root, "x")}, api.ErrThere)
		refuses(t, "P7.2: "+root+" behind others", roomy(), append(several(), folder(root)), api.ErrThere)
	}
	for _, twice := range []string{"/a", "/a/", "//a", "/./a", "/x/../a", "/../a"} {
		for _, second := range []api.File{folder(twice), plain(twice, ""), plain(twice, "x")} {
			for _, first := range []api.File{folder("/a"), plain("/a", ""), plain("/a", "x")} {
				refuses(t, "P7.2: "+twice, roomy(), []api.File{first, plain("/b", ""), second}, api.ErrThere)
			}
		}
	}
	refuses(t, "P7.2: below a directory", roomy(), []api.File{folder("/a"), plain("/a/b", "1"), plain("/a/./b", "2")}, api.ErrThere)
	refuses(t, "P7.2: twice, and the directory isn't told", roomy(), []api.File{plain("/a/b", ""), plain("/a/b", "")}, api.ErrThere)
}

// P7.2: the directory of a path: not told, told behind it, told as a file.
func TestBuildDirs(t *testing.T) {
	refuses(t, "P7.2: two steps", roomy(), []api.File{folder("/a"), folder("/a/b/c")}, api.ErrNone)
	refuses(t, "P7.2: the first step", roomy(), []api.File{folder("/a/b"), plain("/a/b/c", "")}, api.ErrNone)
	refuses(t, "P7.2: below a file, the directory isn't told", roomy(), []api.File{plain("/a", ""), plain("/a/b/c", "")}, api.ErrNone)
	refuses(t, "P7.2: below a file", roomy(), []api.File{plain("/a", ""), folder("/a/b"), plain("/a/b/c", "")}, api.ErrNotDir)
	refuses(t, "P7.2: the file behind", roomy(), []api.File{folder("/a/b"), plain("/a", "x")}, api.ErrNotDir)
	refuses(t, "P7.2: a name that begins alike", roomy(), []api.File{folder("/ab"), plain("/a/b", "")}, api.ErrNone)
	s := roomy()
	root := build(t, s, plain("/a/b/c", "x"), folder("/a/b"), folder("/a"))
	walks(t, "P7.2: told behind", s, root, folder("/a"), folder("/a/b"), plain("/a/b/c", "x"))
}

// P7.2: a directory of 64 names, and of 65; the root is one, too. Names below names don't count.
func TestBuildMany(t *testing.T) {
	for _, path := range []string{"", "/m", "/a/m"} {
		above := []api.File{folder("/a")}
		if path == "" {
			above = nil
		}
		right, more := many(path, 64), many(path, 65)
		if path == "" {
			right, more = right[:64], more[:65]
		}
		s := roomy()
		root := build(t, s, slices.Concat(right, above)...)
		if _, n, e := tree.Stat(s, root, words(strings.ReplaceAll(path, "/", " "))); n != 64 || e != api.OK {
			t.Errorf("P7.2: 64 names in %q: %d, %d", path, n, e)
		}
		refuses(t, "P7.2: 65 names in "+path, roomy(), slices.Concat(more, above), api.ErrMany)
	}
	var list []api.File
	for i := range 64 {
		list = append(list, many("/"+strconv.Itoa(100+i), 64)...)
	}
	s := roomy()
	root := build(t, s, list...)
	if items, e := tree.List(s, root, nil); len(items) != 64 || e != api.OK {
		t.Errorf("P7.2: 64 directories of 64 names: %d, %d", len(items), e)
	}
	if s.Count() != 3 {
		t.Errorf("P7.2: 64 directories with the same names are %d blobs, want 3", s.Count())
	}
}

// P7.2: a store without room for all blobs that it hasn't takes none of them.
func TestBuildFull(t *testing.T) {
	s := roomy()
	build(t, s, several()...)
	all := s.Bytes()
	for _, quota := range []int{0, 1, 2, all / 2, all - 1} {
		refuses(t, "P7.2: room for "+strconv.Itoa(quota), blob.New(quota), several(), api.ErrFull)
	}
	tight := blob.New(all)
	root := build(t, tight, several()...)
	if again := build(t, tight, several()...); again != root || tight.Bytes() != all {
		t.Errorf("P7.2: what is there needs no room again: %d bytes", tight.Bytes())
	}
	refuses(t, "P7.2: one more", tight, append(several(), plain("/q", "")), api.ErrFull)
	refuses(t, "P7.2: no room for an empty root", blob.New(1), nil, api.ErrFull)
	build(t, blob.New(2))
}

// P7.2: a blob of the tree that is broken is whole again.
func TestBuildMends(t *testing.T) {
	s := roomy()
	root := build(t, s, several()...)
	whole := state(s)
	for d := range s.All() {
		harm(t, s, d, api.ErrBroken)
	}
	noWalk(t, "P7.5", s, root, api.ErrBroken)
	if again := build(t, s, several()...); again != root || state(s) != whole {
		t.Error("P7.2: built again, the tree isn't whole")
	}
}

// model: what the promise's words ask of a list, gone through again and again, without a map.
func model(list []api.File) api.Errno {
	paths := make([][]string, len(list))
	for i, f := range list {
		names, e := vpath.Parse(f.Path)
		if e != api.OK {
			return e
		}
		paths[i] = names
	}
	told := func(path []string) int {
		return slices.IndexFunc(paths, func(p []string) bool { return slices.Equal(p, path) })
	}
	wrongs := []struct {
		e     api.Errno
		wrong func(i int) bool
	}{
		{api.ErrArg, func(i int) bool { return list[i].Dir && list[i].Data != "" }},
		{api.ErrBig, func(i int) bool { return len(list[i].Data) > 1024 }},
		{api.ErrThere, func(i int) bool { return len(paths[i]) == 0 || told(paths[i]) != i }},
		{api.ErrNone, func(i int) bool { return len(paths[i]) > 1 && told(paths[i][:len(paths[i])-1]) < 0 }},
		{api.ErrNotDir, func(i int) bool { return len(paths[i]) > 1 && !list[told(paths[i][:len(paths[i])-1])].Dir }},
		{api.ErrMany, func(i int) bool {
			count := 0
			for _, p := range paths {
				if len(p) == len(paths[i]) && slices.Equal(p[:len(p)-1], paths[i][:len(p)-1]) {
					count++
				}
			}
			return count > 64
		}},
	}
	for _, w := range wrongs {
		for i := range list {
			if w.wrong(i) {
				return w.e
			}
		}
	}
	return api.OK
}

// chance: a list of paths, most of them in directories that are told.
func chance(r *rand.Rand) []api.File {
	names := words("a a-b a.b A b 0 _ a0")
	dirs := []string{""}
	var list []api.File
	for range r.Intn(14) {
		path := dirs[r.Intn(len(dirs))] + "/" + names[r.Intn(len(names))]
		f := plain(path, text(r.Intn(3)*r.Intn(70)))
		switch r.Intn(60) {
		case 0:
			f.Path = "/" // told
		case 1:
			f.Path += "/u/v"
		case 2:
			f.Dir, f.Data = true, "x"
		case 3:
			f.Data = text(1025)
		case 4:
			f.Path += "/*"
		case 5:
			f.Path += "/below"
		default:
			if r.Intn(2) == 0 {
				f = folder(path)
				dirs = append(dirs, path)
			}
		}
		list = append(list, f)
	}
	r.Shuffle(len(list), func(i, j int) { list[i], list[j] = list[j], list[i] })
	return list
}

// P7.2, P7.7: lists of chance are answered as the promise's words have it; what is built is told again.
func TestBuildChance(t *testing.T) {
	r := rand.New(rand.NewSource(77))
	built := 0
	for range 6000 {
		list := chance(r)
		if want := model(list); want != api.OK {
			refuses(t, "P7.2: "+show(list), roomy(), list, want)
			continue
		}
		built++
		s := roomy()
		root := build(t, s, list...)
		slices.SortFunc(list, func(a, b api.File) int {
			return slices.Compare(strings.Split(a.Path, "/"), strings.Split(b.Path, "/"))
		})
		walks(t, "P7.7", s, root, list...)
		if again := build(t, s, list...); again != root {
			t.Fatalf("P7.7: %s: another root", show(list))
		}
	}
	if built < 1000 {
		t.Errorf("only %d lists of chance were trees", built)
	}
}
