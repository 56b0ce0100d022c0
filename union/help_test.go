package union_test

import (
	"errors"
	"fmt"
	"math/rand"
	"slices"
	"strings"
	"testing"

	"veneer/api"
	"veneer/blob"
	"veneer/fault"
	"veneer/op"
	"veneer/tree"
	"veneer/union"
	"veneer/upper"
)

// text: so many bytes, no ten of them alike.
func text(count int) string { return strings.Repeat("0123456789", count/10+1)[:count] }

// names: the names of a clean text.
func names(path string) []string {
	return strings.FieldsFunc(path, func(r rune) bool { return r == '/' })
}

// dir, file: what a layer has, and List tells.
func dir(path string) api.File { return api.File{Path: path, Dir: true} }

func file(path, data string) api.File { return api.File{Path: path, Data: data} }

// layer: a list of these.
func layer(files ...api.File) []api.File { return files }

// Inodes of each kind: a file, a directory, an opaque one, a whiteout.
func fileNode(path, data string) api.Inode {
	return api.Inode{Path: path, Kind: api.InodeFile, Data: data}
}
func dirNode(path string) api.Inode { return api.Inode{Path: path, Kind: api.InodeDir} }
func opaque(path string) api.Inode {
	return api.Inode{Path: path, Kind: api.InodeDir, Opaque: true}
}
func white(path string) api.Inode { return api.Inode{Path: path, Kind: api.InodeWhite} }

// Operations of each kind.
func mkdir(path string) api.Op      { return api.Op{Kind: api.OpMkdir, Path: path} }
func create(path string) api.Op     { return api.Op{Kind: api.OpCreate, Path: path} }
func unlink(path string) api.Op     { return api.Op{Kind: api.OpUnlink, Path: path} }
func rmdir(path string) api.Op      { return api.Op{Kind: api.OpRmdir, Path: path} }
func list(path string) api.Op       { return api.Op{Kind: api.OpList, Path: path} }
func stat(path string) api.Op       { return api.Op{Kind: api.OpStat, Path: path} }
func forget(client int) api.Op      { return api.Op{Kind: api.OpForget, At: client} }
func rename(path, to string) api.Op { return api.Op{Kind: api.OpRename, Path: path, To: to} }

func write(path string, at int, data string) api.Op {
	return api.Op{Kind: api.OpWrite, Path: path, At: at, Data: data}
}

func truncate(path string, size int) api.Op {
	return api.Op{Kind: api.OpTruncate, Path: path, Size: size}
}

func read(path string, at, size int) api.Op {
	return api.Op{Kind: api.OpRead, Path: path, At: at, Size: size}
}

// sized: the result of what tells a length alone.
func sized(size int) api.Result { return api.Result{Size: size} }

// named: the result of list.
func named(all ...string) api.Result {
	return api.Result{Dir: true, Size: len(all), Names: all}
}

// show: the beginning of a value's text.
func show(v any) string { return fmt.Sprintf("%.300q", fmt.Sprintf("%+v", v)) }

// same: whether two results are one; names that are nil are as a list without elements.
func same(a, b api.Result) bool {
	return a.Code == b.Code && a.Dir == b.Dir && a.Size == b.Size && a.Data == b.Data && slices.Equal(a.Names, b.Names)
}

// kept: a store with room for all, and in it layers, by their roots.
func kept(t *testing.T, layers ...[]api.File) (*blob.Store, []api.Digest) {
	t.Helper()
	s := blob.New(1 << 30)
	var roots []api.Digest
	for _, l := range layers {
		root, e := tree.Build(s, l)
		if e != api.OK {
			t.Fatalf("tree.Build of %s: %d", show(l), e)
		}
		roots = append(roots, root)
	}
	return s, roots
}

// branch: an upper branch with the greatest quotas.
func branch(t *testing.T, inodes ...api.Inode) *upper.Upper {
	t.Helper()
	return branchOf(t, api.MaxNodes, api.MaxBytes, inodes...)
}

// branchOf: one with these quotas.
func branchOf(t *testing.T, nodes, bytes int, inodes ...api.Inode) *upper.Upper {
	t.Helper()
	u, e := upper.New(nodes, bytes)
	if e != api.OK {
		t.Fatalf("upper.New(%d, %d): %d", nodes, bytes, e)
	}
	for _, i := range inodes {
		if e := u.Put(i); e != api.OK {
			t.Fatalf("upper.Put(%s): %d", show(i), e)
		}
	}
	return u
}

// over: a union over a store's layers.
func over(t *testing.T, s *blob.Store, roots []api.Digest, u *upper.Upper) *union.Union {
	t.Helper()
	x, e := union.New(s, roots, u)
	if e != api.OK || x == nil {
		t.Fatalf("P13.1: New: %v, %d", x != nil, e)
	}
	return x
}

// made: a union of an upper branch over layers, the topmost first.
func made(t *testing.T, u *upper.Upper, layers ...[]api.File) *union.Union {
	t.Helper()
	s, roots := kept(t, layers...)
	return over(t, s, roots, u)
}

// sees: List must tell just these.
func sees(t *testing.T, what string, x *union.Union, want ...api.File) {
	t.Helper()
	if got := x.List(); !slices.Equal(got, want) {
		t.Errorf("%s: List: %s; want %s", what, show(got), show(want))
	}
}

// has: the upper branch must have just these inodes.
func has(t *testing.T, what string, x *union.Union, want ...api.Inode) {
	t.Helper()
	if got := x.Upper().Below(nil); !slices.Equal(got, want) {
		t.Errorf("%s: the upper branch: %s; want %s", what, show(got), show(want))
	}
}

// errs: the error beside a result must be the one of its operation and its Code.
func errs(t *testing.T, o api.Op, code api.Errno, err error) {
	t.Helper()
	if code == api.OK {
		if err != nil {
			t.Errorf("P13.2: %s: error %v; want nil", show(o), err)
		}
		return
	}
	f, ok := err.(*fault.Fault)
	if !ok || f.Op != op.Word(o.Kind) || f.Path != o.Path || f.Err != error(code) {
		t.Errorf("P13.2: %s: error %s; want one of %q, %q, %d", show(o), show(err), op.Word(o.Kind), o.Path, code)
	}
	if !errors.Is(err, code) || !fault.Is(err, code) || fault.Code(err) != code || fault.Path(err) != o.Path || !slices.Equal(fault.Trace(err), []string{op.Word(o.Kind)}) {
		t.Errorf("P13.2: %s: error %s: not found as %d", show(o), show(err), code)
	}
}

// answers: Do must answer this, and leave all as it was if it only reads or is refused.
func answers(t *testing.T, x *union.Union, o api.Op, want api.Result) {
	t.Helper()
	files, inodes := x.List(), x.Upper().Below(nil)
	got, err := x.Do(o)
	if !same(got, want) {
		t.Errorf("P13.2: %s %s: %s; want %s", op.Word(o.Kind), show(o), show(got), show(want))
	}
	errs(t, o, want.Code, err)
	if want.Code != api.OK || op.Reads(o.Kind) || o.Kind == api.OpForget {
		sees(t, "P13.2: behind "+show(o), x, files...)
		has(t, "P13.2: behind "+show(o), x, inodes...)
	}
}

// refuses: Do must answer this error alone, and change nothing.
func refuses(t *testing.T, x *union.Union, o api.Op, want api.Errno) {
	t.Helper()
	answers(t, x, o, api.Result{Code: want})
}

// does: an operation must be done, and leave this upper branch.
func does(t *testing.T, x *union.Union, o api.Op, want api.Result, behind ...api.Inode) {
	t.Helper()
	answers(t, x, o, want)
	has(t, "P13.2: behind "+show(o), x, behind...)
}

// pick: one of a list.
func pick[T any](r *rand.Rand, all ...T) T { return all[r.Intn(len(all))] }
