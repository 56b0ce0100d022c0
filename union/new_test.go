package union_test

import (
	"strconv"
	"testing"

	"veneer/api"
	"veneer/blob"
	"veneer/node"
	"veneer/tree"
	"veneer/union"
	"veneer/upper"
)

// low is the layer of the chapter's examples.
var low = []api.File{dir("/a"), file("/a/f", "hi"), file("/b", "")}

// wrong: New must answer this error, and nil.
func wrong(t *testing.T, what string, s *blob.Store, roots []api.Digest, u *upper.Upper, want api.Errno) {
	t.Helper()
	if x, e := union.New(s, roots, u); e != want || x != nil {
		t.Errorf("P13.1: New of %s: %v, %d; want nil, %d", what, x != nil, e, want)
	}
}

func TestNewNil(t *testing.T) {
	s, roots := kept(t, low)
	many := []api.Digest{{}, {}, {}, {}, {}}
	wrong(t, "no store", nil, roots, branch(t), api.ErrNil)
	wrong(t, "no upper branch", s, roots, nil, api.ErrNil)
	wrong(t, "neither", nil, nil, nil, api.ErrNil)
	wrong(t, "no store, too many layers", nil, many, branch(t), api.ErrNil)
	wrong(t, "no upper branch, too many layers", s, many, nil, api.ErrNil)
	wrong(t, "no upper branch, a layer that isn't there", s, many[:1], nil, api.ErrNil)
}

func TestNewMany(t *testing.T) {
	s, roots := kept(t, low)
	d := roots[0]
	for count := range api.MaxLayers + 1 {
		var lowers []api.Digest
		want := low
		for range count {
			lowers = append(lowers, d)
		}
		if count == 0 {
			want = nil
		}
		sees(t, "P13.1: "+strconv.Itoa(count)+" layers", over(t, s, lowers, branch(t)), want...)
	}
	wrong(t, "one layer too many", s, []api.Digest{d, d, d, d, d}, branch(t), api.ErrMany)
	wrong(t, "one layer too many, none of them there", s, make([]api.Digest, api.MaxLayers+1), branch(t), api.ErrMany)
	wrong(t, "a thousand layers", s, make([]api.Digest, 1000), branch(t), api.ErrMany)
}

// laid: the blob of a node, in a store.
func laid(t *testing.T, s *blob.Store, n api.Node) api.Digest {
	t.Helper()
	b, e := node.Encode(n)
	if e != api.OK {
		t.Fatalf("node.Encode: %d", e)
	}
	d, e := s.Put(b)
	if e != api.OK {
		t.Fatalf("blob.Put: %d", e)
	}
	return d
}

// deep: a tree of directories in one another, so many names deep.
func deep(t *testing.T, s *blob.Store, depth int) api.Digest {
	t.Helper()
	d := laid(t, s, api.Node{Kind: api.NodeDir})
	for range depth {
		d = laid(t, s, api.Node{Kind: api.NodeDir, Items: []api.Item{{Name: "d", Kind: api.NodeDir, Sum: d}}})
	}
	return d
}

// wide: so many paths, at most MaxItems in each directory.
func wide(count int) []api.File {
	var out []api.File
	for i := range count {
		top := "/" + strconv.Itoa(10+i/50)
		if i%50 == 0 {
			out = append(out, dir(top))
		} else {
			out = append(out, file(top+"/"+strconv.Itoa(10+i%50), strconv.Itoa(i)))
		}
	}
	return out
}

func TestNewLayers(t *testing.T) {
	s, roots := kept(t, low, wide(api.MaxWalk), wide(api.MaxWalk+1))
	good, most, many := roots[0], roots[1], roots[2]
	lack := api.Digest{1}
	aFile, e := tree.Write(s, "hi")
	if e != api.OK {
		t.Fatal(e)
	}
	noNode, _ := s.Put([]byte("no node"))
	noFile := laid(t, s, api.Node{Kind: api.NodeDir, Items: []api.Item{{Name: "x", Kind: api.NodeFile, Sum: lack}}})
	spoilt, e := tree.Build(s, layer(file("/spoilt", "spoilt")))
	if e != api.OK || s.Spoil(spoilt, 0, 1) != api.OK {
		t.Fatal("no spoilt tree")
	}
	for _, c := range []struct {
		what   string
		lowers []api.Digest
		want   api.Errno
	}{
		{"a layer that isn't there", []api.Digest{lack}, api.ErrLack},
		{"the zero digest", []api.Digest{{}}, api.ErrLack},
		{"a file as a layer", []api.Digest{aFile}, api.ErrForm},
		{"no node as a layer", []api.Digest{noNode}, api.ErrForm},
		{"a layer a file of which isn't there", []api.Digest{noFile}, api.ErrLack},
		{"a broken layer", []api.Digest{spoilt}, api.ErrBroken},
		{"a layer with too many paths", []api.Digest{many}, api.ErrMany},
		{"a layer that is too deep", []api.Digest{deep(t, s, api.MaxDepth+1)}, api.ErrDeep},
		{"the last of four", []api.Digest{good, most, good, spoilt}, api.ErrBroken},
		{"the first of two, lacking", []api.Digest{lack, spoilt}, api.ErrLack},
		{"the first of two, broken", []api.Digest{spoilt, lack}, api.ErrBroken},
		{"the first of three, form", []api.Digest{good, aFile, lack, spoilt}, api.ErrForm},
		{"the first of three, many", []api.Digest{good, many, aFile, lack}, api.ErrMany},
	} {
		wrong(t, c.what, s, c.lowers, branch(t), c.want)
	}
	sees(t, "P13.1: as many paths as may be", over(t, s, []api.Digest{most}, branch(t)), wide(api.MaxWalk)...)
	if l := over(t, s, []api.Digest{deep(t, s, api.MaxDepth)}, branch(t)).List(); len(l) != api.MaxDepth {
		t.Errorf("P13.1: as deep as may be: %s", show(l))
	}
}

// What goes on behind New says nothing to the union.
func TestNewApart(t *testing.T) {
	s, roots := kept(t, low, layer(dir("/c"), file("/c/g", "low")))
	u := branch(t, dirNode("/a"), fileNode("/a/n", "new"), white("/b"))
	inodes := u.Below(nil)
	want := layer(dir("/a"), file("/a/f", "hi"), file("/a/n", "new"), dir("/c"), file("/c/g", "low"))
	x := over(t, s, roots, u)

	u.Drop(nil)
	if e := u.Put(opaque("/c")); e != api.OK {
		t.Fatal(e)
	}
	sees(t, "P13.1: behind changes to the upper branch", x, want...)
	has(t, "P13.1: behind changes to the upper branch", x, inodes...)
	for d := range s.All() {
		if e := s.Drop(d); e != api.OK {
			t.Fatal(e)
		}
	}
	sees(t, "P13.1: behind the store's blobs", x, want...)
	answers(t, x, read("/c/g", 0, 9), api.Result{Size: 3, Data: "low"})
	if !x.Shown(names("/c/g")) {
		t.Error("P13.1: behind the store's blobs: Shown")
	}

	does(t, x, write("/c/g", 3, "er"), sized(5), append(inodes, dirNode("/c"), fileNode("/c/g", "lower"))...)
	if l := u.Below(nil); len(l) != 1 || l[0] != opaque("/c") {
		t.Errorf("P13.1: the upper branch that was handed in: %s", show(l))
	}
	if s.Count() != 0 {
		t.Errorf("P13.4: the store has %d blobs", s.Count())
	}
}

// Layers over one another, the topmost first.
func TestSeenLayers(t *testing.T) {
	for _, c := range []struct {
		what   string
		layers [][]api.File
		want   []api.File
	}{
		{"none", nil, nil},
		{"one without paths", [][]api.File{nil}, nil},
		{"one", [][]api.File{low}, low},
		{"one over an empty one", [][]api.File{low, nil}, low},
		{"one below an empty one", [][]api.File{nil, low}, low},
		{"a file over a file", [][]api.File{layer(file("/x", "top")), layer(file("/x", "low"))}, layer(file("/x", "top"))},
		{"an empty file over a file", [][]api.File{layer(file("/x", "")), layer(file("/x", "low"))}, layer(file("/x", ""))},
		{"a file over a directory", [][]api.File{layer(file("/x", "top")), layer(dir("/x"), dir("/x/y"), file("/x/y/z", ""), file("/x.y", ""), file("/x-", ""), file("/xy", ""))}, layer(file("/x", "top"), file("/x-", ""), file("/x.y", ""), file("/xy", ""))},
		{"a directory over a file", [][]api.File{layer(dir("/x")), layer(file("/x", "low"))}, layer(dir("/x"))},
		{"a directory over a directory", [][]api.File{layer(dir("/x"), file("/x/b", "")), layer(dir("/x"), file("/x/a", ""), dir("/x/c"), file("/x/c/d", "1"))}, layer(dir("/x"), file("/x/a", ""), file("/x/b", ""), dir("/x/c"), file("/x/c/d", "1"))},
		{"a directory over a file over a directory", [][]api.File{layer(dir("/x"), file("/x/top", "")), layer(file("/x", "")), layer(dir("/x"), file("/x/low", ""), dir("/x/d"))}, layer(dir("/x"), file("/x/top", ""))},
		{"a file over a directory over a file", [][]api.File{layer(file("/x", "1")), layer(dir("/x"), file("/x/y", "")), layer(file("/x", "3"))}, layer(file("/x", "1"))},
		{"a file below a directory over one", [][]api.File{layer(dir("/d"), file("/d/x", "1")), layer(dir("/d"), dir("/d/x"), file("/d/x/y", ""), file("/d/z", ""))}, layer(dir("/d"), file("/d/x", "1"), file("/d/z", ""))},
		{"four", [][]api.File{layer(file("/1", "1")), layer(file("/1", "2"), file("/2", "2")), layer(file("/2", "3"), file("/3", "3")), layer(file("/1", "4"), file("/2", "4"), file("/3", "4"), file("/4", "4"))}, layer(file("/1", "1"), file("/2", "2"), file("/3", "3"), file("/4", "4"))},
	} {
		sees(t, "what is seen: "+c.what, made(t, branch(t), c.layers...), c.want...)
	}
}

// An upper branch over a layer.
func TestSeenUpper(t *testing.T) {
	under := layer(dir("/d"), dir("/d/e"), file("/d/e/g", "g"), file("/d/f", "f"), file("/d-", "near"), file("/f", "low"))
	rest := layer(file("/d-", "near"), file("/f", "low"))
	for _, c := range []struct {
		what   string
		inodes []api.Inode
		want   []api.File
	}{
		{"none", nil, under},
		{"a file over nothing", []api.Inode{fileNode("/c", "new")}, append(layer(file("/c", "new")), under...)},
		{"a file over a file", []api.Inode{fileNode("/f", "top")}, append(under[:5:5], file("/f", "top"))},
		{"a file over a directory", []api.Inode{fileNode("/d", "top")}, append(layer(file("/d", "top")), rest...)},
		{"a directory over nothing", []api.Inode{dirNode("/c")}, append(layer(dir("/c")), under...)},
		{"an opaque directory over nothing", []api.Inode{opaque("/c")}, append(layer(dir("/c")), under...)},
		{"a directory over a file", []api.Inode{dirNode("/f")}, append(under[:5:5], dir("/f"))},
		{"an opaque directory over a file", []api.Inode{opaque("/f")}, append(under[:5:5], dir("/f"))},
		{"a directory over a directory", []api.Inode{dirNode("/d")}, under},
		{"an opaque directory over a directory", []api.Inode{opaque("/d")}, append(layer(dir("/d")), rest...)},
		{"a whiteout over nothing", []api.Inode{white("/c")}, under},
		{"a whiteout over a file", []api.Inode{white("/f")}, under[:5]},
		{"a whiteout over a directory", []api.Inode{white("/d")}, rest},
		{"a whiteout in a directory", []api.Inode{dirNode("/d"), white("/d/e")}, append(layer(dir("/d"), file("/d/f", "f")), rest...)},
		{"a whiteout in an opaque directory", []api.Inode{opaque("/d"), white("/d/e")}, append(layer(dir("/d")), rest...)},
		{"paths in an opaque directory", []api.Inode{opaque("/d"), dirNode("/d/e"), fileNode("/d/x", "x")}, append(layer(dir("/d"), dir("/d/e"), file("/d/x", "x")), rest...)},
		{"an opaque directory in a directory", []api.Inode{dirNode("/d"), opaque("/d/e"), fileNode("/d/e/h", "h")}, append(layer(dir("/d"), dir("/d/e"), file("/d/e/h", "h"), file("/d/f", "f")), rest...)},
		{"a directory in an opaque one", []api.Inode{opaque("/d"), dirNode("/d/e"), dirNode("/d/e/g")}, append(layer(dir("/d"), dir("/d/e"), dir("/d/e/g")), rest...)},
		{"a directory over a file, with a path in it", []api.Inode{dirNode("/f"), fileNode("/f/x", "")}, append(under[:5:5], dir("/f"), file("/f/x", ""))},
		{"whiteouts of all", []api.Inode{white("/d"), white("/d-"), white("/f")}, nil},
	} {
		x := made(t, branch(t, c.inodes...), under)
		sees(t, "what is seen: "+c.what, x, c.want...)
		has(t, "P13.1: "+c.what, x, c.inodes...)
		sees(t, "what is seen: "+c.what+", the layer below another one", made(t, branch(t, c.inodes...), nil, under, nil), c.want...)
	}
	sees(t, "what is seen: a branch alone", made(t, branch(t, dirNode("/a"), fileNode("/a/b", "1"), white("/a/c"), opaque("/d"), white("/w"))), dir("/a"), file("/a/b", "1"), dir("/d"))
}
