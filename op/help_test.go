package op_test

import (
	"bytes"
	"encoding/binary"
	"fmt"
	"math"
	"math/rand"
	"slices"
	"strings"
	"testing"

	"veneer/api"
	"veneer/op"
)

// row is a line of the chapter's table: a kind, its word, and the fields that it names.
type row struct {
	kind                     int
	word                     string
	path, to, data, at, size bool
}

// table: the chapter's, kinds as numbers.
func table() []row {
	return []row{
		{kind: 1, word: "mkdir", path: true},
		{kind: 2, word: "create", path: true},
		{kind: 3, word: "write", path: true, at: true, data: true},
		{kind: 4, word: "truncate", path: true, size: true},
		{kind: 5, word: "unlink", path: true},
		{kind: 6, word: "rmdir", path: true},
		{kind: 7, word: "rename", path: true, to: true},
		{kind: 8, word: "read", path: true, at: true, size: true},
		{kind: 9, word: "list", path: true},
		{kind: 10, word: "stat", path: true},
		{kind: 11, word: "forget", at: true},
	}
}

// noKinds: numbers that are no kind's.
func noKinds() []int {
	return []int{0, 12, 13, -1, -2, -3, -11, 100, 255, 256, 1<<8 + 1, 1<<32 + 3, -1<<32 + 3, math.MinInt, math.MinInt + 1, math.MaxInt}
}

// right: an operation of a row that may be, with no field that could be zero.
func (r row) right() api.Op {
	o := api.Op{Kind: r.kind}
	if r.path {
		o.Path = "/a/b"
	}
	if r.to {
		o.To = "/c"
	}
	if r.data {
		o.Data = "data"
	}
	if r.at {
		o.At = 5
	}
	if r.size {
		o.Size = 7
	}
	return o
}

// text: so many bytes.
func text(count int) string { return strings.Repeat("x", count) }

// names: so many, unlike one another.
func names(count int) []string {
	list := make([]string, count)
	for i := range list {
		list[i] = fmt.Sprintf("n%d", i)
	}
	return list
}

// show: the beginning of a value's text.
func show(v any) string { return fmt.Sprintf("%.120s", fmt.Sprintf("%#v", v)) }

// same: whether two results are one; names that are nil are as a list without elements.
func same(a, b api.Result) bool {
	return a.Code == b.Code && a.Dir == b.Dir && a.Size == b.Size && a.Data == b.Data && slices.Equal(a.Names, b.Names)
}

// putText: a text's bytes, written without the layer below.
func putText(b []byte, s string) []byte {
	return append(binary.AppendUvarint(b, uint64(len(s))), s...)
}

// spell: the bytes that the chapter gives an operation.
func spell(o api.Op) []byte {
	b := binary.AppendVarint(nil, int64(o.Kind))
	b = putText(putText(putText(b, o.Path), o.To), o.Data)
	return binary.AppendVarint(binary.AppendVarint(b, int64(o.At)), int64(o.Size))
}

// spellResult: the bytes that the chapter gives a result.
func spellResult(r api.Result) []byte {
	b := binary.AppendVarint(nil, int64(r.Code))
	if r.Dir {
		b = append(b, 1)
	} else {
		b = append(b, 0)
	}
	b = putText(binary.AppendVarint(b, int64(r.Size)), r.Data)
	b = binary.AppendUvarint(b, uint64(len(r.Names)))
	for _, name := range r.Names {
		b = putText(b, name)
	}
	return b
}

// checks: Check must answer this.
func checks(t *testing.T, what string, o api.Op, want api.Errno) {
	t.Helper()
	if e := op.Check(o); e != want {
		t.Errorf("P10.1: %s: Check(%s): %d, want %d", what, show(o), e, want)
	}
}

// writes: Encode must answer the chapter's bytes, and Decode of these the operation.
func writes(t *testing.T, what string, o api.Op) {
	t.Helper()
	b, e := op.Encode(o)
	if e != api.OK || !bytes.Equal(b, spell(o)) {
		t.Errorf("P10.3: %s: Encode(%s): %.60x, %d; want %.60x", what, show(o), b, e, spell(o))
	}
	if got, e := op.Decode(spell(o)); e != api.OK || got != o {
		t.Errorf("P10.3: %s: Decode: %s, %d; want %s", what, show(got), e, show(o))
	}
}

// tooLong: Encode must answer ErrLong alone, and the bytes that the operation would have must be none.
func tooLong(t *testing.T, what string, o api.Op) {
	t.Helper()
	if b, e := op.Encode(o); e != api.ErrLong || len(b) != 0 {
		t.Errorf("P10.3: %s: Encode(%s): %.60x, %d; want ErrLong alone", what, show(o), b, e)
	}
	noOp(t, what, spell(o))
}

// noOp: Decode must answer ErrForm alone.
func noOp(t *testing.T, what string, b []byte) {
	t.Helper()
	if o, e := op.Decode(b); e != api.ErrForm || o != (api.Op{}) {
		t.Errorf("P10.3: %s: Decode(%.60x): %s, %d; want ErrForm alone", what, b, show(o), e)
	}
}

// packs: Pack must answer the chapter's bytes, and Unpack of these the result.
func packs(t *testing.T, what string, r api.Result) {
	t.Helper()
	b, e := op.Pack(r)
	if e != api.OK || !bytes.Equal(b, spellResult(r)) {
		t.Errorf("P10.4: %s: Pack(%s): %.60x, %d; want %.60x", what, show(r), b, e, spellResult(r))
	}
	if got, e := op.Unpack(spellResult(r)); e != api.OK || !same(got, r) {
		t.Errorf("P10.4: %s: Unpack: %s, %d; want %s", what, show(got), e, show(r))
	}
}

// refuses: Pack must answer this error alone, and the bytes that the result would have must be none.
func refuses(t *testing.T, what string, r api.Result, want api.Errno) {
	t.Helper()
	if b, e := op.Pack(r); e != want || len(b) != 0 {
		t.Errorf("P10.4: %s: Pack(%s): %.60x, %d; want %d alone", what, show(r), b, e, want)
	}
	noResult(t, what, spellResult(r))
}

// noResult: Unpack must answer ErrForm alone.
func noResult(t *testing.T, what string, b []byte) {
	t.Helper()
	if r, e := op.Unpack(b); e != api.ErrForm || !same(r, api.Result{}) {
		t.Errorf("P10.4: %s: Unpack(%.60x): %s, %d; want ErrForm alone", what, b, show(r), e)
	}
}

// sampleOps: operations of all kinds and of none, such as Check takes and such as it refuses.
func sampleOps() []api.Op {
	list := []api.Op{
		{},
		{Kind: 12},
		{Kind: math.MinInt, Path: "x", At: -1, Size: math.MaxInt},
		{Kind: math.MaxInt, Data: "\x00\xff\x80", At: math.MinInt, Size: -64},
		{Kind: 3, Path: "no path", To: "/to", Data: text(1025), At: 64, Size: -65},
		{Kind: 7, Path: text(127), To: text(128), Data: text(129), At: 63, Size: 8192},
	}
	for _, r := range table() {
		list = append(list, api.Op{Kind: r.kind}, r.right())
	}
	return list
}

// sampleResults: results of all shapes.
func sampleResults() []api.Result {
	return []api.Result{
		{},
		{Names: []string{}},
		{Code: api.ErrNone},
		{Code: api.ErrWord, Size: -1},
		{Dir: true, Size: 2, Names: []string{"a/", "b"}},
		{Size: 1024, Data: text(1024)},
		{Code: math.MinInt, Dir: true, Size: math.MaxInt, Data: "\x00\xff\x80", Names: []string{"", "", "\x00", "a b", "\xff"}},
		{Code: math.MaxInt, Size: math.MinInt, Data: text(128), Names: []string{text(127), text(128)}},
		{Names: names(127)},
		{Names: names(128)},
	}
}

// pick: one of a list.
func pick[T any](r *rand.Rand, list ...T) T { return list[r.Intn(len(list))] }

// number: any number, often one of an edge.
func number(r *rand.Rand) int {
	edge := pick(r, 0, 1, 8, 63, 64, 127, 128, 1024, 1100, 8192, 1<<20, 1<<40, 1<<62, math.MaxInt)
	return pick(r, edge, -edge, edge-1, -edge-1, int(r.Uint64()), int(r.Uint64()>>r.Intn(64)))
}

// bytesOf: a text of any bytes, at most so many.
func bytesOf(r *rand.Rand, most int) string {
	b := make([]byte, pick(r, 0, 1, r.Intn(10), r.Intn(most+1), most))
	r.Read(b)
	return string(b)
}
