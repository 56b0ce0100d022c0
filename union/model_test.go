package union_test

import (
	"maps"
	"math/rand"
	"slices"
	"strings"
	"testing"

	"veneer/api"
	"veneer/blob"
	"veneer/op"
	"veneer/plain"
	"veneer/union"
	"veneer/vpath"
)

// model is a second union, by the chapter's words: nothing is kept but the layers and the upper branch's inodes; what is seen is made anew each time.
type model struct {
	layers [][]api.File // the topmost first
	inodes map[string]api.Inode
	nodes  int
	bytes  int
}

// atOrBelow: whether one clean text is another one's path, or lies below it.
func atOrBelow(path, of string) bool { return path == of || strings.HasPrefix(path, of+"/") }

// ordered: inodes in the order of their paths.
func ordered(inodes map[string]api.Inode) []api.Inode {
	return slices.SortedFunc(maps.Values(inodes), func(a, b api.Inode) int { return vpath.Compare(names(a.Path), names(b.Path)) })
}

// covered: what is left of what is seen without a path and all below.
func covered(seen []api.File, path string) []api.File {
	return slices.DeleteFunc(seen, func(f api.File) bool { return atOrBelow(f.Path, path) })
}

// laidOver: what is seen with a file or a directory over it.
func laidOver(seen []api.File, f api.File) []api.File {
	if f.Dir && slices.Contains(seen, dir(f.Path)) {
		return seen
	}
	return append(covered(seen, f.Path), f)
}

// seen: what is seen with these inodes, in the order of paths.
func (m *model) seen(inodes map[string]api.Inode) []api.File {
	var seen []api.File
	for i := len(m.layers) - 1; i >= 0; i-- {
		for _, f := range m.layers[i] {
			seen = laidOver(seen, f)
		}
	}
	for _, i := range ordered(inodes) {
		switch {
		case i.Kind == api.InodeFile:
			seen = laidOver(seen, file(i.Path, i.Data))
		case i.Kind == api.InodeDir && i.Opaque:
			seen = append(covered(seen, i.Path), dir(i.Path))
		case i.Kind == api.InodeDir:
			seen = laidOver(seen, dir(i.Path))
		default:
			seen = covered(seen, i.Path)
		}
	}
	slices.SortFunc(seen, func(a, b api.File) int { return vpath.Compare(names(a.Path), names(b.Path)) })
	return seen
}

// shows: whether something would be seen at a path without its inode and those below.
func (m *model) shows(inodes map[string]api.Inode, path string) bool {
	rest := maps.Clone(inodes)
	drop(rest, path)
	return slices.ContainsFunc(m.seen(rest), func(f api.File) bool { return f.Path == path })
}

// drop: the inode at a path and all below go.
func drop(inodes map[string]api.Inode, path string) {
	maps.DeleteFunc(inodes, func(at string, _ api.Inode) bool { return atOrBelow(at, path) })
}

// lift: each path above gets a directory that isn't opaque, if it has no inode.
func lift(inodes map[string]api.Inode, path string) {
	for i, c := range path {
		if _, there := inodes[path[:i]]; c == '/' && i > 0 && !there {
			inodes[path[:i]] = dirNode(path[:i])
		}
	}
}

// cut: as the chapter says.
func (m *model) cut(inodes map[string]api.Inode, path string) {
	drop(inodes, path)
	if m.shows(inodes, path) {
		lift(inodes, path)
		inodes[path] = white(path)
	}
}

// inode: a path's inode, as a directory opaque if the layers show the path.
func (m *model) inode(inodes map[string]api.Inode, f api.File) api.Inode {
	if f.Dir {
		return api.Inode{Path: f.Path, Kind: api.InodeDir, Opaque: m.shows(inodes, f.Path)}
	}
	return fileNode(f.Path, f.Data)
}

// data: a file's data behind a write or a truncate.
func data(old string, o api.Op) string {
	if o.Kind == api.OpTruncate {
		return (old + strings.Repeat("\x00", api.MaxFile))[:o.Size]
	}
	b := []byte(old + strings.Repeat("\x00", api.MaxFile))
	copy(b[o.At:], o.Data)
	return string(b[:max(len(old), o.At+len(o.Data))])
}

// changed: the inodes behind an operation that a plain file system takes.
func (m *model) changed(o api.Op) map[string]api.Inode {
	seen, next := m.seen(m.inodes), maps.Clone(m.inodes)
	path, _ := vpath.Clean(o.Path)
	to, _ := vpath.Clean(o.To)
	find := func(path string) api.File {
		return seen[slices.IndexFunc(seen, func(f api.File) bool { return f.Path == path })]
	}
	switch o.Kind {
	case api.OpMkdir:
		lift(next, path)
		next[path] = m.inode(next, dir(path))
	case api.OpCreate:
		lift(next, path)
		next[path] = fileNode(path, "")
	case api.OpWrite, api.OpTruncate:
		lift(next, path)
		next[path] = fileNode(path, data(find(path).Data, o))
	case api.OpUnlink, api.OpRmdir:
		m.cut(next, path)
	case api.OpRename:
		if path == to {
			return next
		}
		mind := find(path)
		m.cut(next, path)
		drop(next, to)
		lift(next, to)
		mind.Path = to
		next[to] = m.inode(next, mind)
		for _, f := range seen {
			if f.Path == path || !atOrBelow(f.Path, path) {
				continue
			}
			below := to + f.Path[len(path):]
			if f.Dir {
				next[below] = dirNode(below)
			} else {
				next[below] = fileNode(below, f.Data)
			}
		}
	}
	return next
}

// do: an operation by the chapter's words.
func (m *model) do(t *testing.T, o api.Op) api.Result {
	t.Helper()
	fs, e := plain.New(m.seen(m.inodes))
	if e != api.OK {
		t.Fatalf("what is seen is no file system: %d", e)
	}
	r := fs.Do(o)
	if r.Code != api.OK || op.Reads(o.Kind) || o.Kind == api.OpForget {
		return r
	}
	next, size := m.changed(o), 0
	for _, i := range next {
		size += len(i.Data)
	}
	if len(next) > m.nodes || size > m.bytes {
		return api.Result{Code: api.ErrFull}
	}
	m.inodes = next
	if got := m.seen(next); !slices.Equal(got, fs.List()) {
		t.Fatalf("the second union, behind %s, sees %s, and not as a plain file system %s", show(o), show(got), show(fs.List()))
	}
	return r
}

// drawnPath: a clean text of few names, so that paths meet.
func drawnPath(r *rand.Rand, most int) string {
	path := ""
	for range 1 + r.Intn(most) {
		path += "/" + pick(r, "a", "a", "b", "b", "a-", "c")
	}
	return path
}

// drawnLayer: paths of a tree.
func drawnLayer(r *rand.Rand) []api.File {
	files := map[string]api.File{}
	for range r.Intn(12) {
		path := drawnPath(r, 4)
		for i, c := range path {
			if c == '/' && i > 0 {
				files[path[:i]] = dir(path[:i])
			}
		}
		if files[path].Dir || r.Intn(3) == 0 {
			files[path] = dir(path)
		} else {
			files[path] = file(path, text(r.Intn(8)))
		}
	}
	return slices.SortedFunc(maps.Values(files), func(a, b api.File) int { return vpath.Compare(names(a.Path), names(b.Path)) })
}

// drawnInodes: an upper branch's, such as no operations may have left.
func drawnInodes(t *testing.T, r *rand.Rand, nodes, bytes int) []api.Inode {
	u := branchOf(t, nodes, bytes)
	for range r.Intn(15) {
		path := drawnPath(r, 4)
		u.Put(pick(r, fileNode(path, text(r.Intn(8))), dirNode(path), dirNode(path), opaque(path), white(path)))
	}
	return u.Below(nil)
}

// told: a path's text in one of its many forms.
func told(r *rand.Rand, path string) string {
	return pick(r, path, path, path, path, path+"/", "/."+path, strings.ReplaceAll(path, "/", "//"), path+"/x/..", "/.."+path)
}

// drawnOp: an operation of any kind, mostly one that may be, often on a path that is seen.
func drawnOp(r *rand.Rand, seen []api.File) api.Op {
	path := func() string {
		if len(seen) > 0 && r.Intn(3) > 0 {
			return told(r, seen[r.Intn(len(seen))].Path)
		}
		return told(r, pick(r, drawnPath(r, 5), drawnPath(r, 2), drawnPath(r, 2), drawnPath(r, 10), "/"))
	}
	from, to := path(), path()
	o := pick(r, mkdir(from), mkdir(from), create(from), create(from), write(from, r.Intn(4), text(r.Intn(9))), write(from, r.Intn(9), text(r.Intn(9))), truncate(from, r.Intn(12)), unlink(from), unlink(from), rmdir(from), rmdir(from),
		rename(from, to), rename(from, to), rename(from, drawnPath(r, 2)), rename(from, from), read(from, r.Intn(5), r.Intn(9)), list(from), stat(from), forget(1+r.Intn(8)))
	switch r.Intn(40) {
	case 0:
		o.Kind = r.Intn(14) - 1
	case 1:
		o.Path = pick(r, "", "x", "/a b", "/"+text(17), "/"+text(300))
	case 2:
		o = pick(r, write(from, r.Intn(9), text(api.MaxFile-4)), write(from, 0, text(api.MaxFile+1)), truncate(from, api.MaxFile), truncate(from, -1))
	}
	return o
}

// setting is a drawn union with all that it is held against.
type setting struct {
	store *blob.Store
	roots []api.Digest
	x     *union.Union
	m     *model
}

// drawn: layers and an upper branch with these quotas.
func drawn(t *testing.T, r *rand.Rand, nodes, bytes int) setting {
	t.Helper()
	var layers [][]api.File
	for range r.Intn(api.MaxLayers + 1) {
		layers = append(layers, drawnLayer(r))
	}
	inodes := drawnInodes(t, r, nodes, bytes)
	m := &model{layers: layers, inodes: map[string]api.Inode{}, nodes: nodes, bytes: bytes}
	for _, i := range inodes {
		m.inodes[i.Path] = i
	}
	s, roots := kept(t, layers...)
	return setting{store: s, roots: roots, x: over(t, s, roots, branchOf(t, nodes, bytes, inodes...)), m: m}
}

// holds: the union must see what the second one sees, have the same upper branch, and show the same.
func (d setting) holds(t *testing.T, r *rand.Rand, what string) {
	t.Helper()
	sees(t, what, d.x, d.m.seen(d.m.inodes)...)
	has(t, what, d.x, ordered(d.m.inodes)...)
	for range 5 {
		path := drawnPath(r, 5)
		if got, want := d.x.Shown(names(path)), d.m.shows(d.m.inodes, path); got != want {
			t.Errorf("P13.2: %s: Shown(%s): %v; want %v", what, path, got, want)
		}
	}
	sees(t, "P13.4: a union with its upper branch: "+what, over(t, d.store, d.roots, d.x.Upper()), d.x.List()...)
}

func TestDrawn(t *testing.T) {
	met := map[api.Errno]int{}
	done := map[int]int{}
	for seed := range int64(400) {
		r := rand.New(rand.NewSource(seed))
		d := drawn(t, r, pick(r, 0, 3, 6, 10, 20, 20, api.MaxNodes, api.MaxNodes), pick(r, 0, 10, 20, 2000, 2000, api.MaxBytes, api.MaxBytes))
		blobs := slices.Collect(d.store.All())
		d.holds(t, r, "at first")
		for range 40 {
			o := drawnOp(r, d.x.List())
			want := d.m.do(t, o)
			got, err := d.x.Do(o)
			if !same(got, want) {
				t.Errorf("P13.2: %s: %s; want %s", show(o), show(got), show(want))
			}
			errs(t, o, want.Code, err)
			d.holds(t, r, "P13.2: behind "+show(o))
			met[want.Code]++
			if want.Code == api.OK {
				done[o.Kind]++
			}
			if t.Failed() {
				t.Fatalf("seed %d: layers %s", seed, show(d.m.layers))
			}
		}
		if !slices.Equal(slices.Collect(d.store.All()), blobs) {
			t.Errorf("P13.4: seed %d: the store is another one", seed)
		}
	}
	for _, e := range []api.Errno{api.OK, api.ErrArg, api.ErrLong, api.ErrFull, api.ErrNone, api.ErrThere, api.ErrPath, api.ErrName, api.ErrDeep, api.ErrNotDir, api.ErrIsDir, api.ErrKind, api.ErrNotEmpty, api.ErrWithin, api.ErrRoot, api.ErrRange, api.ErrBig} {
		if met[e] < 5 {
			t.Errorf("the drawn scripts met error %d %d times", e, met[e])
		}
	}
	for kind := api.OpMkdir; kind <= api.OpForget; kind++ {
		if done[kind] < 50 {
			t.Errorf("the drawn scripts did %s %d times", op.Word(kind), done[kind])
		}
	}
}

// With room enough, a union is a plain file system that began with what was seen; and so is its clone.
func TestPlain(t *testing.T) {
	full := 0
	for seed := range int64(200) {
		r := rand.New(rand.NewSource(seed))
		d := drawn(t, r, api.MaxNodes, api.MaxBytes)
		fs, e := plain.New(d.x.List())
		if e != api.OK {
			t.Fatalf("P13.4: what is seen is no file system: %d", e)
		}
		for range 60 {
			o := drawnOp(r, fs.List())
			if r.Intn(8) == 0 {
				d.x = d.x.Clone()
			}
			if r.Intn(8) == 0 {
				d.x = over(t, d.store, d.roots, d.x.Upper())
			}
			next := fs.Clone()
			want := next.Do(o)
			got, err := d.x.Do(o)
			errs(t, o, got.Code, err)
			if got.Code == api.ErrFull { // long files may fill it: then it is as it was
				next, want = fs, got
				full++
			}
			if !same(got, want) || !slices.Equal(d.x.List(), next.List()) {
				t.Fatalf("P13.4: seed %d: %s: %s, %s; want %s, %s", seed, show(o), show(got), show(d.x.List()), show(want), show(next.List()))
			}
			fs = next
		}
	}
	if full > 100 { // of 12000
		t.Errorf("P13.4: there wasn't room enough %d times", full)
	}
}
