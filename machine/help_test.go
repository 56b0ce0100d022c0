package machine_test

import (
	"encoding/binary"
	"fmt"
	"math"
	"math/rand"
	"slices"
	"strings"
	"testing"

	"veneer/api"
	"veneer/blob"
	"veneer/machine"
	"veneer/session"
	"veneer/sha"
	"veneer/tree"
)

// text: so many bytes, no ten of them alike.
func text(count int) string { return strings.Repeat("0123456789", count/10+1)[:count] }

// show: the beginning of a value's text.
func show(v any) string { return fmt.Sprintf("%.300q", fmt.Sprintf("%+v", v)) }

// pick: one of a list.
func pick[T any](r *rand.Rand, all ...T) T { return all[r.Intn(len(all))] }

// dir, file: what a layer has, and List tells.
func dir(path string) api.File { return api.File{Path: path, Dir: true} }

func file(path, data string) api.File { return api.File{Path: path, Data: data} }

// Inodes of each kind: a file, a directory, an opaque one, a whiteout.
func fileNode(path, data string) api.Inode {
	return api.Inode{Path: path, Kind: api.InodeFile, Data: data}
}
func dirNode(path string) api.Inode { return api.Inode{Path: path, Kind: api.InodeDir} }
func opaque(path string) api.Inode {
	return api.Inode{Path: path, Kind: api.InodeDir, Opaque: true}
}
func white(path string) api.Inode { return api.Inode{Path: path, Kind: api.InodeWhite} }

// Operations of each kind.
func mkdir(path string) api.Op      { return api.Op{Kind: api.OpMkdir, Path: path} }
func create(path string) api.Op     { return api.Op{Kind: api.OpCreate, Path: path} }
func unlink(path string) api.Op     { return api.Op{Kind: api.OpUnlink, Path: path} }
func rmdir(path string) api.Op      { return api.Op{Kind: api.OpRmdir, Path: path} }
func list(path string) api.Op       { return api.Op{Kind: api.OpList, Path: path} }
func stat(path string) api.Op       { return api.Op{Kind: api.OpStat, Path: path} }
func forget(client int) api.Op      { return api.Op{Kind: api.OpForget, At: client} }
func rename(path, to string) api.Op { return api.Op{Kind: api.OpRename, Path: path, To: to} }

func write(path string, at int, data string) api.Op {
	return api.Op{Kind: api.OpWrite, Path: path, At: at, Data: data}
}

func truncate(path string, size int) api.Op {
	return api.Op{Kind: api.OpTruncate, Path: path, Size: size}
}

func read(path string, at, size int) api.Op {
	return api.Op{Kind: api.OpRead, Path: path, At: at, Size: size}
}

// entry: a client's request.
func entry(client int, number int64, o api.Op) api.Entry {
	return api.Entry{Client: client, Number: number, Op: o}
}

// Results: of an error, of a length alone, of list.
func code(e api.Errno) api.Result { return api.Result{Code: e} }
func sized(size int) api.Result   { return api.Result{Size: size} }
func named(all ...string) api.Result {
	return api.Result{Dir: true, Size: len(all), Names: all}
}

// done is the result of what tells nothing.
var done = api.Result{}

// same: whether two results are one; names that are nil are as a list without elements.
func same(a, b api.Result) bool {
	return a.Code == b.Code && a.Dir == b.Dir && a.Size == b.Size && a.Data == b.Data && slices.Equal(a.Names, b.Names)
}

// Seats: with a reply that is kept, and with one that isn't.
func kept(client int, number, at int64, reply string) api.Seat {
	return api.Seat{Client: client, Number: number, At: at, Kept: true, Reply: reply}
}
func gone(client int, number, at int64) api.Seat {
	return api.Seat{Client: client, Number: number, At: at}
}

// noClients: numbers that are no client's.
func noClients() []int {
	return []int{0, -1, -8, 9, 10, 255, 256, 257, 1 << 32, 1<<32 + 1, 1<<62 + 2, math.MaxInt, math.MinInt}
}

// noNumbers: numbers that are no request's.
func noNumbers() []int64 {
	return []int64{0, -1, -2, -api.Greatest, api.Greatest + 1, api.Greatest + 2, 2 * api.Greatest, math.MaxInt64, math.MinInt64}
}

// num: a number's bytes, not by layer 2.
func num(n uint64) string { return string(binary.AppendUvarint(nil, n)) }

// signed: those of a number with a sign, not by layer 2.
func signed(n int64) string { return string(binary.AppendVarint(nil, n)) }

// field: a text's bytes.
func field(s string) string { return num(uint64(len(s))) + s }

// flag: a flag's byte.
func flag(yes bool) string {
	if yes {
		return "\x01"
	}
	return "\x00"
}

// packed: a result's bytes, by chapter 10's words.
func packed(r api.Result) string {
	b := signed(int64(r.Code)) + flag(r.Dir) + signed(int64(r.Size)) + field(r.Data) + num(uint64(len(r.Names)))
	for _, name := range r.Names {
		b += field(name)
	}
	return b
}

// branchBytes: an upper branch's, by chapter 12's words, be it one or not.
func branchBytes(nodes, bytes uint64, inodes ...api.Inode) string {
	b := num(nodes) + num(bytes) + num(uint64(len(inodes)))
	for _, i := range inodes {
		b += field(i.Path) + num(uint64(i.Kind)) + flag(i.Opaque) + field(i.Data)
	}
	return b
}

// tableBytes: a table's, by chapter 14's words, be it one or not.
func tableBytes(room uint64, seats ...api.Seat) string {
	b := num(room) + num(uint64(len(seats)))
	for _, x := range seats {
		b += num(uint64(x.Client)) + num(uint64(x.Number)) + signed(x.At) + flag(x.Kept) + field(x.Reply)
	}
	return b
}

// stateBytes: a machine's.
func stateBytes(at uint64, branch, table string) string {
	return num(at) + field(branch) + field(table)
}

// stored: a store with room for all, and in it layers, by their roots.
func stored(t *testing.T, layers ...[]api.File) (*blob.Store, []api.Digest) {
	t.Helper()
	s := blob.New(1 << 30)
	var roots []api.Digest
	for _, l := range layers {
		root, e := tree.Build(s, l)
		if e != api.OK {
			t.Fatalf("tree.Build of %s: %d", show(l), e)
		}
		roots = append(roots, root)
	}
	return s, roots
}

// fresh: a machine that no request made.
func fresh(t *testing.T, nodes, bytes, room int, layers ...[]api.File) *machine.Machine {
	t.Helper()
	s, roots := stored(t, layers...)
	m, e := machine.New(s, roots, nodes, bytes, room)
	if e != api.OK || m == nil {
		t.Fatalf("P15.1: New: %v, %d", m != nil, e)
	}
	return m
}

// loaded: the machine of these bytes, over layers.
func loaded(t *testing.T, state string, layers ...[]api.File) *machine.Machine {
	t.Helper()
	s, roots := stored(t, layers...)
	m, e := machine.Load(s, roots, []byte(state))
	if e != api.OK || m == nil {
		t.Fatalf("P15.1: Load(%.80x): %v, %d", state, m != nil, e)
	}
	return m
}

// applies: Apply must answer this result, with the entry's client and number.
func applies(t *testing.T, m *machine.Machine, e api.Entry, want api.Result) {
	t.Helper()
	got := m.Apply(e)
	if got.Client != e.Client || got.Number != e.Number || !same(got.Result, want) {
		t.Errorf("P15.2: Apply(%s): %s; want %s", show(e), show(got), show(want))
	}
}

// adds: the same, and the count must rise by one, and nothing else be another one.
func adds(t *testing.T, m *machine.Machine, e api.Entry, want api.Result) {
	t.Helper()
	before := split(t, m)
	applies(t, m, e, want)
	before.at++
	if now := split(t, m); now != before {
		t.Errorf("P15.2: behind Apply(%s): %s; want %s", show(e), show(now), show(before))
	}
}

// bits are a machine's bytes, part by part.
type bits struct {
	at            uint64
	branch, table string
}

// split: the parts of a machine's bytes, not by layer 2.
func split(t *testing.T, m *machine.Machine) bits {
	t.Helper()
	rest := m.State()
	next := func() uint64 {
		n, size := binary.Uvarint(rest)
		if size <= 0 {
			t.Fatalf("P15.3: State: %.80x", m.State())
		}
		rest = rest[size:]
		return n
	}
	piece := func() string {
		n := next()
		if n > uint64(len(rest)) {
			t.Fatalf("P15.3: State: %.80x", m.State())
		}
		s := string(rest[:n])
		rest = rest[n:]
		return s
	}
	p := bits{at: next(), branch: piece(), table: piece()}
	if len(rest) > 0 {
		t.Fatalf("P15.3: State: %d bytes too many", len(rest))
	}
	return p
}

// known: Known must answer this.
func known(t *testing.T, m *machine.Machine, client int, number int64, want session.State, result api.Result) {
	t.Helper()
	if state, r := m.Known(client, number); state != want || !same(r, result) {
		t.Errorf("P15.2: Known(%d, %d): %d, %s; want %d, %s", client, number, state, show(r), want, show(result))
	}
}

// seated: Seats must be these.
func seated(t *testing.T, m *machine.Machine, want ...api.Seat) {
	t.Helper()
	if got := m.Seats(); !slices.Equal(got, want) {
		t.Errorf("P15.2: Seats: %s; want %s", show(got), show(want))
	}
}

// sees: List must tell just these.
func sees(t *testing.T, m *machine.Machine, want ...api.File) {
	t.Helper()
	if got := m.List(); !slices.Equal(got, want) {
		t.Errorf("P15.2: List: %s; want %s", show(got), show(want))
	}
}

// is: all that a machine tells must be these bytes, and what they mean.
func is(t *testing.T, what string, m *machine.Machine, at uint64, branch, table string) {
	t.Helper()
	want := stateBytes(at, branch, table)
	if got := string(m.State()); got != want {
		t.Errorf("P15.3: %s: State: %.120x; want %.120x", what, got, want)
	}
	if got := m.At(); got != int64(at) {
		t.Errorf("P15.2: %s: At: %d; want %d", what, got, at)
	}
	if got := m.Print(); got != sha.Sum([]byte(want)) {
		t.Errorf("P15.3: %s: Print: %x", what, got)
	}
}
