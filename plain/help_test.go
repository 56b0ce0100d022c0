package plain_test

import (
	"fmt"
	"math/rand"
	"slices"
	"strings"
	"testing"

	"veneer/api"
	"veneer/op"
	"veneer/plain"
)

// text: so many bytes, no ten of them alike.
func text(count int) string { return strings.Repeat("0123456789", count/10+1)[:count] }

// dir, file: what New is told, and List tells.
func dir(path string) api.File { return api.File{Path: path, Dir: true} }

func file(path, data string) api.File { return api.File{Path: path, Data: data} }

// Operations of each kind.
func mkdir(path string) api.Op  { return api.Op{Kind: api.OpMkdir, Path: path} }
func create(path string) api.Op { return api.Op{Kind: api.OpCreate, Path: path} }
func unlink(path string) api.Op { return api.Op{Kind: api.OpUnlink, Path: path} }
func rmdir(path string) api.Op  { return api.Op{Kind: api.OpRmdir, Path: path} }
func list(path string) api.Op   { return api.Op{Kind: api.OpList, Path: path} }
func stat(path string) api.Op   { return api.Op{Kind: api.OpStat, Path: path} }
func forget(client int) api.Op  { return api.Op{Kind: api.OpForget, At: client} }

func write(path string, at int, data string) api.Op {
	return api.Op{Kind: api.OpWrite, Path: path, At: at, Data: data}
}

func truncate(path string, size int) api.Op {
	return api.Op{Kind: api.OpTruncate, Path: path, Size: size}
}

func rename(path, to string) api.Op { return api.Op{Kind: api.OpRename, Path: path, To: to} }

func read(path string, at, size int) api.Op {
	return api.Op{Kind: api.OpRead, Path: path, At: at, Size: size}
}

// sized: the result of what tells a length alone.
func sized(size int) api.Result { return api.Result{Size: size} }

// named: the result of list.
func named(names ...string) api.Result {
	return api.Result{Dir: true, Size: len(names), Names: names}
}

// show: the beginning of a value's text.
func show(v any) string { return fmt.Sprintf("%.160s", fmt.Sprintf("%+v", v)) }

// same: whether two results are one; names that are nil are as a list without elements.
func same(a, b api.Result) bool {
	return a.Code == b.Code && a.Dir == b.Dir && a.Size == b.Size && a.Data == b.Data && slices.Equal(a.Names, b.Names)
}

// made: a file system of paths that must be those of one.
func made(t *testing.T, files ...api.File) *plain.FS {
	t.Helper()
	f, e := plain.New(files)
	if e != api.OK || f == nil {
		t.Fatalf("P11.1: New of %s: %d", show(files), e)
	}
	return f
}

// has: List must tell just these.
func has(t *testing.T, what string, f *plain.FS, want ...api.File) {
	t.Helper()
	if got := f.List(); !slices.Equal(got, want) {
		t.Errorf("%s: List: %s; want %s", what, show(got), show(want))
	}
}

// answers: Do must answer this, and leave all as it was if it only reads or is refused.
func answers(t *testing.T, f *plain.FS, o api.Op, want api.Result) {
	t.Helper()
	before := f.List()
	if got := f.Do(o); !same(got, want) {
		t.Errorf("P11.2: %s %s: %s; want %s", op.Word(o.Kind), show(o), show(got), show(want))
	}
	if want.Code != api.OK || op.Reads(o.Kind) || o.Kind == api.OpForget {
		has(t, "P11.4: behind "+show(o), f, before...)
	}
}

// refuses: Do must answer this error alone, and change nothing.
func refuses(t *testing.T, f *plain.FS, o api.Op, want api.Errno) {
	t.Helper()
	answers(t, f, o, api.Result{Code: want})
}

// does: of paths an operation must answer this, and leave these paths.
func does(t *testing.T, files []api.File, o api.Op, want api.Result, behind ...api.File) {
	t.Helper()
	f := made(t, files...)
	answers(t, f, o, want)
	has(t, "P11.2: behind "+show(o), f, behind...)
}

// several: paths of all shapes, in their order: empty directories, files of no bytes and of the most, names that begin alike, the greatest depth.
func several() []api.File {
	return []api.File{
		dir("/a"), dir("/a/a"), file("/a/a/x", text(70)), file("/a/b", ""), dir("/a/c"),
		file("/a-b", "1"), dir("/a.b"), file("/a.b/x", "2"), file("/aa", "\x00\xff"),
		dir("/d"), dir("/d/d"), dir("/d/d/d"), dir("/d/d/d/d"), dir("/d/d/d/d/d"), dir("/d/d/d/d/d/d"), dir("/d/d/d/d/d/d/d"),
		file("/d/d/d/d/d/d/d/e", "deep"), dir("/d/d/d/d/d/d/d/f"),
		dir("/e"), file("/f", "hello"), file("/z", text(api.MaxFile)),
	}
}

// pick: one of a list.
func pick[T any](r *rand.Rand, all ...T) T { return all[r.Intn(len(all))] }

// shuffled: a list in another order.
func shuffled[T any](r *rand.Rand, all []T) []T {
	out := slices.Clone(all)
	r.Shuffle(len(out), func(i, j int) { out[i], out[j] = out[j], out[i] })
	return out
}
