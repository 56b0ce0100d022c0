package upper_test

import (
	"encoding/binary"
	"fmt"
	"math/rand"
	"slices"
	"strconv"
	"strings"
	"testing"

	"veneer/api"
	"veneer/upper"
)

// text: so many bytes, no ten of them alike.
func text(count int) string { return strings.Repeat("0123456789", count/10+1)[:count] }

// list: the names of a text with a blank between each two.
func list(s string) []string { return strings.Fields(s) }

// Inodes of each kind.
func file(path, data string) api.Inode {
	return api.Inode{Path: path, Kind: api.InodeFile, Data: data}
}
func dir(path string) api.Inode { return api.Inode{Path: path, Kind: api.InodeDir} }
func opaque(path string) api.Inode {
	return api.Inode{Path: path, Kind: api.InodeDir, Opaque: true}
}
func white(path string) api.Inode { return api.Inode{Path: path, Kind: api.InodeWhite} }

// kinds: an inode at a path of each kind, each with what it may have and without it.
func kinds(path string) []api.Inode {
	return []api.Inode{file(path, ""), file(path, "hi"), dir(path), opaque(path), white(path)}
}

// noKinds: numbers that are no kind's.
func noKinds() []int {
	return []int{0, -1, 4, 5, 255, 256, 257, 1 << 32, 1<<32 + 1, 1<<62 + 2, -1 << 62, -1 << 63, 1<<63 - 1}
}

// show: the beginning of a value's text.
func show(v any) string { return fmt.Sprintf("%.160q", fmt.Sprintf("%+v", v)) }

// made: an upper branch with the greatest quotas of inodes that it must take.
func made(t *testing.T, inodes ...api.Inode) *upper.Upper {
	t.Helper()
	return madeOf(t, api.MaxNodes, api.MaxBytes, inodes...)
}

// madeOf: one with these quotas.
func madeOf(t *testing.T, nodes, bytes int, inodes ...api.Inode) *upper.Upper {
	t.Helper()
	u, e := upper.New(nodes, bytes)
	if e != api.OK || u == nil {
		t.Fatalf("P12.1: New(%d, %d): %d", nodes, bytes, e)
	}
	for _, i := range inodes {
		if e := u.Put(i); e != api.OK {
			t.Fatalf("P12.2: Put(%s): %d", show(i), e)
		}
	}
	return u
}

// has: the upper branch must have just these inodes, whatever it is asked.
func has(t *testing.T, what string, u *upper.Upper, want ...api.Inode) {
	t.Helper()
	if got := u.Below(nil); !slices.Equal(got, want) {
		t.Errorf("%s: inodes: %s; want %s", what, show(got), show(want))
		return
	}
	size := 0
	for _, i := range want {
		size += len(i.Data)
		if got, there := u.Get(strings.Split(i.Path, "/")[1:]); !there || got != i {
			t.Errorf("%s: Get of %s: %s, %v; want %s", what, i.Path, show(got), there, show(i))
		}
	}
	if u.Count() != len(want) || u.Size() != size {
		t.Errorf("%s: Count %d, Size %d; want %d, %d", what, u.Count(), u.Size(), len(want), size)
	}
}

// puts: Put must answer this; with an error it must change nothing.
func puts(t *testing.T, u *upper.Upper, i api.Inode, want api.Errno) {
	t.Helper()
	before, bytes := u.Below(nil), string(u.Encode())
	if got := u.Put(i); got != want {
		t.Errorf("P12.2: Put(%s): %d; want %d", show(i), got, want)
	}
	if want == api.OK {
		return
	}
	has(t, "P12.6: behind a Put of "+show(i), u, before...)
	if string(u.Encode()) != bytes {
		t.Errorf("P12.6: behind a Put of %s the bytes are others", show(i))
	}
}

// several: inodes of all shapes, in their order: names that begin alike, all kinds, the greatest depth, the longest file.
func several() []api.Inode {
	return []api.Inode{
		dir("/a"), opaque("/a/a"), file("/a/a/x", text(70)), white("/a/a/y"), file("/a/b", ""), dir("/a/c"),
		white("/a-b"), dir("/a.b"), file("/a.b/x", "2"), file("/aa", "\x00\xff"),
		dir("/d"), dir("/d/d"), dir("/d/d/d"), dir("/d/d/d/d"), opaque("/d/d/d/d/d"), dir("/d/d/d/d/d/d"), dir("/d/d/d/d/d/d/d"),
		file("/d/d/d/d/d/d/d/e", "deep"), opaque("/d/d/d/d/d/d/d/f"), white("/d/d/d/d/d/d/d/g"),
		opaque("/e"), file("/f", "hello"), white("/w"), file("/z", text(api.MaxFile)),
	}
}

// noPaths: names that are no path, many of which have the text of one that several() has.
func noPaths() [][]string {
	return [][]string{
		{""}, {"", ""}, {"a", ""}, {"", "a"}, {"."}, {".."}, {"a", "."}, {"a", ".."}, {"a", "..", "f"}, {".", "f"}, {"a", "b", "..", "b"},
		{"a/a"}, {"a/a", "x"}, {"a", "a/x"}, {"a/a/x"}, {"/a"}, {"a/"}, {"a", "/b"}, {"a/c", ""}, {"/"}, {"d/d/d/d/d/d/d/e"}, {"d/d", "d/d", "d/d", "d", "e"},
		{"a b"}, {"a\x00"}, {"é"}, {text(17)}, {text(300)}, {"a", text(17)}, {"\xff"},
		list("d d d d d d d e x"), list("d d d d d d d d d"), list("a a a a a a a a a a a a"), slices.Repeat([]string{"d"}, 5000),
	}
}

// full: MaxInodes inodes, in their order: a directory, and files in it and beside it.
func full() []api.Inode {
	all := []api.Inode{dir("/d")}
	for i := range 500 {
		all = append(all, file("/d/"+strconv.Itoa(1000+i), "x"))
	}
	for i := range api.MaxInodes - 501 {
		all = append(all, kinds("/n" + strconv.Itoa(1000+i))[i%5])
	}
	return all
}

// field: a text's bytes, not by layer 2.
func field(s string) string { return num(uint64(len(s))) + s }

// num: a number's bytes, not by layer 2.
func num(n uint64) string { return string(binary.AppendUvarint(nil, n)) }

// inodeBytes: an inode's bytes, in four fields.
func inodeBytes(i api.Inode) []string {
	flag := "\x00"
	if i.Opaque {
		flag = "\x01"
	}
	return []string{field(i.Path), num(uint64(i.Kind)), flag, field(i.Data)}
}

// fields: the bytes of an upper branch field by field, be it one or not.
func fields(nodes, bytes uint64, inodes ...api.Inode) []string {
	out := []string{num(nodes), num(bytes), num(uint64(len(inodes)))}
	for _, i := range inodes {
		out = append(out, inodeBytes(i)...)
	}
	return out
}

// spell: the same in one.
func spell(nodes, bytes uint64, inodes ...api.Inode) string {
	return strings.Join(fields(nodes, bytes, inodes...), "")
}

// means: Decode of these bytes must be an upper branch with just these inodes.
func means(t *testing.T, what, b string, want ...api.Inode) *upper.Upper {
	t.Helper()
	u, e := upper.Decode([]byte(b))
	if e != api.OK || u == nil {
		t.Errorf("P12.5: %s: Decode(%.80x): %d", what, b, e)
		return nil
	}
	has(t, "P12.5: "+what, u, want...)
	if got := string(u.Encode()); got != b {
		t.Errorf("P12.5: %s: Encode of Decode(%.80x): %.80x", what, b, got)
	}
	return u
}

// nothing: Decode must answer ErrForm, and nil.
func nothing(t *testing.T, what, b string) {
	t.Helper()
	if u, e := upper.Decode([]byte(b)); e != api.ErrForm || u != nil {
		t.Errorf("P12.5: %s: Decode(%.80x): %v, %d; want nil, ErrForm", what, b, u != nil, e)
	}
}

// pick: one of a list.
func pick[T any](r *rand.Rand, all ...T) T { return all[r.Intn(len(all))] }
