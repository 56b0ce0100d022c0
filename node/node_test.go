package node_test

import (
	"bytes"
	"fmt"
	"math"
	"math/rand"
	"slices"
	"strconv"
	"strings"
	"testing"

	"veneer/api"
	"veneer/blob"
	"veneer/node"
)

// digest: one that is unlike those of other marks.
func digest(mark int) api.Digest {
	var d api.Digest
	for i := range d {
		d[i] = byte(mark + i)
	}
	return d
}

// parts: so many digests.
func parts(count int) []api.Digest {
	var out []api.Digest
	for i := range count {
		out = append(out, digest(i+1))
	}
	return out
}

// items: so many items with rising names of the greatest length, of both kinds in turn.
func items(count int) []api.Item {
	var out []api.Item
	for i := range count {
		name := strconv.Itoa(1000+i) + strings.Repeat("n", api.MaxName-4)
		out = append(out, api.Item{Name: name, Kind: api.NodeFile + i%2, Sum: digest(i)})
	}
	return out
}

// named: a directory of files with these names.
func named(names ...string) api.Node {
	n := api.Node{Kind: api.NodeDir}
	for i, name := range names {
		n.Items = append(n.Items, api.Item{Name: name, Kind: api.NodeFile, Sum: digest(i)})
	}
	return n
}

// chunk, file, dir: nodes of each kind.
func chunk(data string) api.Node { return api.Node{Kind: api.NodeChunk, Data: data} }

func file(size, count int) api.Node {
	return api.Node{Kind: api.NodeFile, Size: size, Parts: parts(count)}
}

func dir(list ...api.Item) api.Node { return api.Node{Kind: api.NodeDir, Items: list} }

// same: whether two nodes are one; a list that is nil is as one without elements.
func same(a, b api.Node) bool {
	return a.Kind == b.Kind && a.Data == b.Data && a.Size == b.Size && slices.Equal(a.Parts, b.Parts) && slices.Equal(a.Items, b.Items)
}

// clone: a node that shares no memory with n.
func clone(n api.Node) api.Node {
	n.Parts, n.Items = slices.Clone(n.Parts), slices.Clone(n.Items)
	return n
}

// show: the beginning of a node's text.
func show(n api.Node) string { return fmt.Sprintf("%.80s", fmt.Sprint(n)) }

// text: so many bytes.
func text(count int) string { return strings.Repeat("x", count) }

// spell: the bytes that the chapter gives a node, of numbers below 2^14, written without the layer below.
func spell(n api.Node) []byte {
	b := short(n.Kind)
	switch n.Kind {
	case api.NodeChunk:
		return append(append(b, short(len(n.Data))...), n.Data...)
	case api.NodeFile:
		b = append(b, short(n.Size)...)
	default:
		b = append(b, short(len(n.Items))...)
	}
	for _, d := range n.Parts {
		b = append(b, d[:]...)
	}
	for _, i := range n.Items {
		b = append(append(b, short(len(i.Name))...), i.Name...)
		b = append(append(b, short(i.Kind)...), i.Sum[:]...)
	}
	return b
}

// short: a number of one byte or two.
func short(n int) []byte {
	if n < 128 {
		return []byte{byte(n)}
	}
	return []byte{byte(n%128 + 128), byte(n / 128)}
}

// fits: n must be right, have the chapter's bytes, and be what these mean.
func fits(t *testing.T, what string, n api.Node) {
	t.Helper()
	if e := node.Check(n); e != api.OK {
		t.Errorf("%s: Check: %d, want OK", what, e)
	}
	b, e := node.Encode(n)
	if e != api.OK || !bytes.Equal(b, spell(n)) {
		t.Errorf("%s: Encode: %.40x, %d; want %.40x", what, b, e, spell(n))
	}
	means(t, what, spell(n), n)
}

// means: Decode must answer this node.
func means(t *testing.T, what string, b []byte, want api.Node) {
	t.Helper()
	if n, e := node.Decode(b); e != api.OK || !same(n, want) {
		t.Errorf("%s: Decode: %s, %d; want %s", what, show(n), e, show(want))
	}
}

// wrong: Check and Encode of n must answer ErrForm, with nothing beside it.
func wrong(t *testing.T, what string, n api.Node) {
	t.Helper()
	if e := node.Check(n); e != api.ErrForm {
		t.Errorf("%s: Check: %d, want ErrForm", what, e)
	}
	if b, e := node.Encode(n); e != api.ErrForm || len(b) != 0 {
		t.Errorf("%s: Encode: %x, %d; want ErrForm alone", what, b, e)
	}
}

// noNode: Decode must answer ErrForm, with nothing beside it.
func noNode(t *testing.T, what string, b []byte) {
	t.Helper()
	if n, e := node.Decode(b); e != api.ErrForm || !same(n, api.Node{}) {
		t.Errorf("%s: Decode(%.40x): %s, %d; want ErrForm alone", what, b, show(n), e)
	}
}

// misfit: n must not be right, and its bytes, of a node with no fields but its kind's, no node's.
func misfit(t *testing.T, what string, n api.Node) {
	t.Helper()
	wrong(t, what, n)
	noNode(t, what, spell(n))
}

// sample: right nodes of all kinds, the least and the greatest among them.
func sample() []api.Node {
	return []api.Node{
		chunk("a"), chunk("ab"), chunk("\x00\xff/"), chunk(text(api.ChunkLen)),
		file(0, 0), file(1, 1), file(64, 1), file(65, 2), file(127, 2), file(128, 2), file(api.MaxFile, 16),
		dir(), named("a"), named("a", "b"), dir(items(3)...), dir(items(api.MaxItems)...),
	}
}

// P6.1: the chapter's examples.
func TestExamples(t *testing.T) {
	for _, r := range []struct {
		n    api.Node
		want string
	}{
		{chunk("ab"), "\x01\x02ab"}, {file(0, 0), "\x02\x00"}, {dir(), "\x03\x00"},
	} {
		if b, e := node.Encode(r.n); e != api.OK || string(b) != r.want {
			t.Errorf("Encode(%v): %x, %d; want %x", r.n, b, e, r.want)
		}
		means(t, "example", []byte(r.want), r.n)
	}
	for _, b := range []string{"\x01\x00", "\x04", "\x02\x01", "\x03\x00\x00"} {
		noNode(t, "example", []byte(b))
	}
}

// P6.1: a chunk has 1 to 64 bytes, of any kind.
func TestChunk(t *testing.T) {
	for _, count := range []int{1, 2, 63, 64} {
		fits(t, "chunk of "+strconv.Itoa(count), chunk(text(count)))
	}
	fits(t, "chunk of odd bytes", chunk("\x00\xff/\n\x80"))
	for _, count := range []int{0, 65, 66, 128, 1024, 5000} {
		misfit(t, "chunk of "+strconv.Itoa(count), chunk(text(count)))
	}
}

// P6.1: a file has 0 to 1024 bytes, and a part for each 64 of them.
func TestFile(t *testing.T) {
	for _, r := range [][2]int{{0, 0}, {1, 1}, {63, 1}, {64, 1}, {65, 2}, {127, 2}, {128, 2}, {129, 3}, {960, 15}, {961, 16}, {1023, 16}, {1024, 16}} {
		what := "file of " + strconv.Itoa(r[0])
		fits(t, what, file(r[0], r[1]))
		misfit(t, what+", a part too many", file(r[0], r[1]+1))
		if r[1] > 0 {
			misfit(t, what+", a part too few", file(r[0], r[1]-1))
			misfit(t, what+", no part", file(r[0], 0))
		}
	}
	for _, r := range [][2]int{{1025, 16}, {1025, 17}, {1088, 17}, {2048, 32}, {1025, 0}, {1024 + 128*64, 16}} {
		misfit(t, "file of "+strconv.Itoa(r[0]), file(r[0], r[1]))
	}
	for _, size := range []int{-1, -63, -64, -65, math.MinInt, math.MaxInt, math.MaxInt - 62, math.MaxInt - 63} {
		for _, count := range []int{0, 1, 2, 16} {
			wrong(t, "file of "+strconv.Itoa(size), file(size, count))
		}
	}
}

// P6.1: a directory has at most 64 items, each with a name and a kind.
func TestDir(t *testing.T) {
	for _, count := range []int{0, 1, 2, 63, 64} {
		fits(t, "directory of "+strconv.Itoa(count), dir(items(count)...))
	}
	for _, count := range []int{65, 66, 127, 128, 200} {
		misfit(t, "directory of "+strconv.Itoa(count), dir(items(count)...))
	}
	for _, name := range []string{"a", "Z", "0", "...", ".a", "a.", "-", "_", text(15), text(16)} {
		fits(t, "name "+name, named(name))
	}
	for _, name := range []string{"", ".", "..", "/", "a/", "/a", "a/b", " ", "a b", "a\x00", "\xff", "ä", text(17), text(40), text(5000)} {
		misfit(t, "name "+name, named(name))
		misfit(t, "name "+name+" behind another", named("-", name))
		misfit(t, "name "+name+" ahead of another", named(name, "z"))
	}
	for _, kind := range []int{api.NodeFile, api.NodeDir} {
		fits(t, "kind "+strconv.Itoa(kind), dir(api.Item{Name: "a", Kind: kind}))
	}
	for _, kind := range []int{0, api.NodeChunk, 4, 5, 66, 127, 258, 259} {
		misfit(t, "kind "+strconv.Itoa(kind), dir(api.Item{Name: "a", Kind: kind}))
		misfit(t, "kind "+strconv.Itoa(kind)+" at the end", dir(api.Item{Name: "a", Kind: api.NodeDir}, api.Item{Name: "b", Kind: kind}))
	}
	for _, kind := range []int{-1, -2, math.MinInt, math.MaxInt, math.MinInt + 2} {
		wrong(t, "kind "+strconv.Itoa(kind), dir(api.Item{Name: "a", Kind: kind}))
	}
}

// P6.1: a directory's names rise byte by byte, whatever else their items have.
func TestRising(t *testing.T) {
	for _, names := range [][]string{{"a", "b"}, {"a", "aa"}, {"Z", "a"}, {"a", "a-"}, {"9", "A"}, {"10", "9"}, {"a", "a.", "b"}, {"-", "...", "0", "A", "_", "a"}} {
		fits(t, "rising", named(names...))
		back := slices.Clone(names)
		slices.Reverse(back)
		misfit(t, "falling "+strings.Join(back, " "), named(back...))
	}
	for _, names := range [][]string{{"a", "a"}, {"a", "b", "b"}, {"a", "a", "b"}, {"a", "c", "b"}, {"b", "a", "c"}, {"a", "b", "a"}} {
		misfit(t, "not rising "+strings.Join(names, " "), named(names...))
	}
	misfit(t, "one name, two kinds", dir(api.Item{Name: "a", Kind: api.NodeFile}, api.Item{Name: "a", Kind: api.NodeDir}))
	late := items(api.MaxItems)
	late[63].Name = late[62].Name
	misfit(t, "the last two of one name", dir(late...))
}

// P6.1: a kind that is none.
func TestNoKind(t *testing.T) {
	for _, kind := range []int{0, 4, 5, 127, 128, 129, 130, 131, 257, 258, 259} {
		misfit(t, "kind "+strconv.Itoa(kind), api.Node{Kind: kind})
	}
	for _, kind := range []int{-1, -2, -3, math.MinInt, math.MaxInt, math.MinInt + 2} {
		wrong(t, "kind "+strconv.Itoa(kind), api.Node{Kind: kind})
	}
	for _, n := range sample() {
		for _, kind := range []int{0, 4, -n.Kind, 256 + n.Kind} {
			n.Kind = kind
			wrong(t, "a right node but for its kind "+strconv.Itoa(kind), n)
		}
	}
}

// P6.1: a field that isn't its kind's must be zero; a list without elements is.
func TestOtherFields(t *testing.T) {
	data := func(n *api.Node) { n.Data = "a" }
	size := func(n *api.Node) { n.Size = 1 }
	below := func(n *api.Node) { n.Size = -1 }
	part := func(n *api.Node) { n.Parts = parts(1) }
	zeroPart := func(n *api.Node) { n.Parts = make([]api.Digest, 1) }
	whole := func(n *api.Node) { n.Size, n.Parts = 64, parts(1) } // a file's fields, which agree
	item := func(n *api.Node) { n.Items = items(1) }
	zeroItem := func(n *api.Node) { n.Items = make([]api.Item, 1) }
	for _, r := range []struct {
		nodes []api.Node
		lay   []func(*api.Node)
	}{
		{[]api.Node{chunk("a"), chunk(text(64))}, []func(*api.Node){size, below, part, zeroPart, whole, item, zeroItem}},
		{[]api.Node{file(0, 0), file(1, 1), file(1024, 16)}, []func(*api.Node){data, item, zeroItem}},
		{[]api.Node{dir(), dir(items(1)...), dir(items(64)...)}, []func(*api.Node){data, size, below, part, zeroPart, whole}},
	} {
		for _, n := range r.nodes {
			for i, lay := range r.lay {
				odd := n
				lay(&odd)
				wrong(t, "kind "+strconv.Itoa(n.Kind)+", field "+strconv.Itoa(i), odd)
			}
			n.Parts, n.Items = append([]api.Digest{}, n.Parts...), append([]api.Item{}, n.Items...)
			fits(t, "empty lists", n)
		}
	}
	wrong(t, "no field", api.Node{})
	wrong(t, "chunk's data in a file", api.Node{Kind: api.NodeFile, Data: text(64)})
	wrong(t, "a directory's items in a chunk", api.Node{Kind: api.NodeChunk, Items: items(2)})
	wrong(t, "all fields", api.Node{Kind: api.NodeDir, Data: "a", Size: 1, Parts: parts(1), Items: items(1)})
}

// P6.1: bytes that are cut anywhere, and bytes behind a node.
func TestCutAndMore(t *testing.T) {
	noNode(t, "no bytes", nil)
	noNode(t, "no bytes", []byte{})
	for _, n := range sample() {
		b := spell(n)
		for cut := range len(b) {
			noNode(t, "cut", b[:cut])
		}
		for _, more := range []byte{0, 1, 0x80, 0xff} {
			noNode(t, "a byte behind", append(slices.Clone(b), more))
		}
		noNode(t, "itself behind", slices.Concat(b, b))
		noNode(t, "a digest behind", append(slices.Clone(b), make([]byte, 32)...))
	}
}

// P6.1: a number in a longer form than it needs, or of no 64 bits, wherever numbers stand.
func TestLongNumbers(t *testing.T) {
	sum := string(make([]byte, 32))
	great := strings.Repeat("\xff", 9)
	for _, s := range []string{
		"\x81\x00\x02ab", "\x01\x82\x00ab", "\x01\x82\x80\x00ab",
		"\x82\x00\x00", "\x02\x80\x00", "\x02\x81\x00" + sum, "\x02\xc0\x80\x00" + sum,
		"\x83\x00\x00", "\x03\x80\x00", "\x03\x81\x00\x01a\x02" + sum, "\x03\x01\x81\x00a\x02" + sum, "\x03\x01\x01a\x82\x00" + sum,
		great + "\x02", great + "\xff\x01", "\x01" + great + "\x02a", "\x02" + great + "\x02", "\x03" + great + "\x02", "\x03\x01" + great + "\x02a\x02" + sum, "\x03\x01\x01a" + great + "\x02" + sum,
	} {
		noNode(t, "a number too long", []byte(s))
	}
	means(t, "the same number, as it must be", []byte("\x03\x01\x01a\x02"+sum), dir(api.Item{Name: "a", Kind: api.NodeFile}))
}

// P6.1: a number of items, a size or a length that is greater than what is there, or than may be.
func TestGreatNumbers(t *testing.T) {
	sum := string(make([]byte, 32))
	for _, s := range []string{
		"\x01\x02a", "\x01\x40a", "\x01\x7fa", "\x02\x40", "\x02\x41" + sum, "\x02\x80\x08" + sum, "\x03\x01", "\x03\x40", "\x03\x41", "\x03\x02\x01a\x02" + sum, "\x03\x01\x02a\x02" + sum, "\x03\x01\x10a\x02" + sum,
	} {
		noNode(t, "more than is there", []byte(s))
	}
	for _, great := range []string{
		"\x80\x80\x04", "\xff\xff\xff\xff\x07", "\xff\xff\xff\xff\x0f", "\x80\x80\x80\x80\x10", "\x82\x80\x80\x80\x10", "\xff\xff\xff\xff\xff\xff\xff\xff\x7f",
		strings.Repeat("\x80", 9) + "\x01", strings.Repeat("\xff", 9) + "\x01", "\x82" + strings.Repeat("\x80", 8) + "\x01",
	} {
		for _, s := range []string{great, great + "\x00", "\x01" + great, "\x01" + great + "ab", "\x02" + great, "\x02" + great + sum, "\x03" + great, "\x03" + great + "\x01a\x02" + sum, "\x03\x01" + great + "a\x02" + sum, "\x03\x01\x01a" + great + sum} {
			noNode(t, "a great number", []byte(s))
		}
	}
	// A size whose lowest bits are 0: the file of 2^32 bytes is not that of none.
	noNode(t, "2^32", []byte("\x02\x80\x80\x80\x80\x10"))
	noNode(t, "2^32 items", []byte("\x03\x80\x80\x80\x80\x10"))
}

// P6.2: Find of any node.
func TestFind(t *testing.T) {
	first := api.Item{Name: "b", Kind: api.NodeDir, Sum: digest(1)}
	list := []api.Item{{Name: "c", Kind: api.NodeFile, Sum: digest(7)}, first, {Name: "b", Kind: api.NodeFile, Sum: digest(2)}, {Name: "", Kind: 9}, {Name: "a/b", Kind: -1}, {Name: "."}, {Name: text(40), Kind: 1}}
	for _, n := range []api.Node{{Items: list}, {Kind: api.NodeDir, Items: list}, {Kind: api.NodeChunk, Data: "b", Items: list}, {Kind: -7, Size: -1, Parts: parts(2), Items: list}} {
		for i, item := range list {
			want := item
			if i == 2 {
				want = first // the name is there twice
			}
			if got, ok := node.Find(n, item.Name); !ok || got != want {
				t.Errorf("Find(%q): %v, %v; want %v", item.Name, got, ok, want)
			}
		}
		for _, name := range []string{"a", "B", "bb", "b\x00", "/", "..", text(39)} {
			if got, ok := node.Find(n, name); ok || got != (api.Item{}) {
				t.Errorf("Find(%q): %v, %v; want none", name, got, ok)
			}
		}
	}
	for _, n := range []api.Node{{}, chunk("a"), file(65, 2), dir()} {
		for _, name := range []string{"", "a"} {
			if got, ok := node.Find(n, name); ok || got != (api.Item{}) {
				t.Errorf("Find(%q) of %v: %v, %v; want none", name, n, got, ok)
			}
		}
	}
	great := dir(items(api.MaxItems)...)
	for _, item := range great.Items {
		if got, ok := node.Find(great, item.Name); !ok || got != item {
			t.Errorf("Find(%q): %v, %v", item.Name, got, ok)
		}
	}
}

// P6.2: Kids of any node: first the parts, then the items, each list in its order.
func TestKids(t *testing.T) {
	part := func(mark int) api.Item { return api.Item{Kind: api.NodeChunk, Sum: digest(mark)} }
	odd := []api.Item{{Name: "b", Kind: 9}, {Name: "a", Kind: api.NodeDir, Sum: digest(5)}, {Name: "a"}, {}}
	for _, r := range []struct {
		what string
		n    api.Node
		want []api.Item
	}{
		{"nothing", api.Node{}, nil},
		{"chunk", chunk("a"), nil},
		{"empty file", file(0, 0), nil},
		{"file", file(129, 3), []api.Item{part(1), part(2), part(3)}},
		{"empty directory", dir(), nil},
		{"directory", dir(items(3)...), items(3)},
		{"both", api.Node{Parts: []api.Digest{digest(9), digest(1), digest(9)}, Items: odd}, append([]api.Item{part(9), part(1), part(9)}, odd...)},
		{"both, in a chunk", api.Node{Kind: api.NodeChunk, Data: "a", Parts: parts(1), Items: odd[:2]}, []api.Item{part(1), odd[0], odd[1]}},
		{"both, of a kind that is none", api.Node{Kind: -1, Size: -1, Parts: parts(2), Items: odd[1:3]}, []api.Item{part(1), part(2), odd[1], odd[2]}},
		{"items in a file", api.Node{Kind: api.NodeFile, Items: odd}, odd},
		{"parts in a directory", api.Node{Kind: api.NodeDir, Parts: parts(1)}, []api.Item{part(1)}},
		{"more than may be", api.Node{Parts: parts(100), Items: items(100)}, append(node.Kids(api.Node{Parts: parts(100)}), items(100)...)},
	} {
		if got := node.Kids(r.n); !slices.Equal(got, r.want) {
			t.Errorf("Kids of %s: %v, want %v", r.what, got, r.want)
		}
	}
	if got := node.Kids(file(1024, 16)); len(got) != 16 || got[15] != part(16) {
		t.Errorf("Kids of the greatest file: %v", got)
	}
}

// P6.3: a node is what its bytes mean; other bytes are another node's, or no node's.
func TestThereAndBack(t *testing.T) {
	for _, n := range sample() {
		b, e := node.Encode(n)
		if e != api.OK {
			t.Errorf("Encode of %s: %d", show(n), e)
		}
		means(t, "there and back", b, n)
		turns := []int{1, 2, 3, 0x40, 0x80, 0xff}
		if len(b) < 200 {
			turns = nil
			for turn := 1; turn < 256; turn++ {
				turns = append(turns, turn)
			}
		}
		for at := range b {
			for _, turn := range turns {
				other := slices.Clone(b)
				other[at] ^= byte(turn)
				another(t, other, n)
			}
			another(t, slices.Delete(slices.Clone(b), at, at+1), n)
			for _, more := range []byte{0, 1, 0x80, b[at]} {
				another(t, slices.Insert(slices.Clone(b), at, more), n)
			}
		}
	}
}

// another: b must mean a right node that isn't n, with these bytes, or none.
func another(t *testing.T, b []byte, n api.Node) {
	t.Helper()
	got, e := node.Decode(b)
	if e == api.ErrForm && same(got, api.Node{}) {
		return
	}
	back, f := node.Encode(got)
	if e != api.OK || node.Check(got) != api.OK || same(got, n) || f != api.OK || !bytes.Equal(back, b) {
		t.Errorf("Decode(%.60x): %s, %d; Encode of that: %.60x, %d", b, show(got), e, back, f)
	}
}

// P6.3: two right nodes with the same bytes are the same.
func TestNoTwoAlike(t *testing.T) {
	seen := map[string]int{}
	all := append(sample(), chunk("b"), chunk("a\x00"), file(2, 1), file(66, 2), named("aa"), named("a", "c"),
		dir(api.Item{Name: "a", Kind: api.NodeDir, Sum: digest(0)}), dir(api.Item{Name: "a", Kind: api.NodeFile, Sum: digest(1)}),
		api.Node{Kind: api.NodeFile, Size: 1, Parts: []api.Digest{digest(2)}})
	for i, n := range all {
		b, e := node.Encode(n)
		if j, ok := seen[string(b)]; ok || e != api.OK {
			t.Errorf("Encode of %s: %d; the bytes of %s", show(n), e, show(all[j]))
		}
		seen[string(b)] = i
	}
}

// P6.3: a right node's bytes are a blob, the greatest ones' too.
func TestBlob(t *testing.T) {
	s := blob.New(1 << 20)
	for _, r := range []struct {
		n    api.Node
		want int
	}{{chunk(text(64)), 66}, {file(1024, 16), 3 + 16*32}, {dir(items(64)...), 2 + 64*(1+16+1+32)}} {
		b, e := node.Encode(r.n)
		if e != api.OK || len(b) != r.want || len(b) > api.MaxBlob {
			t.Fatalf("Encode of kind %d: %d bytes, %d; want %d", r.n.Kind, len(b), e, r.want)
		}
		d, e := s.Put(b)
		if e != api.OK {
			t.Fatalf("Put: %d", e)
		}
		b, _ = s.Get(d)
		means(t, "from a store", b, r.n)
	}
}

// P6.1: nodes of chance, held against the chapter's words, said once more.
func TestModel(t *testing.T) {
	r := rand.New(rand.NewSource(6))
	count := [2]int{}
	for range 40000 {
		n := chance(r)
		if lawful(n) {
			count[0]++
			fits(t, "model", n)
		} else {
			count[1]++
			wrong(t, "model", n)
		}
	}
	if count[0] < 1000 || count[1] < 1000 {
		t.Errorf("too few of one sort: %v", count)
	}
}

// pick: one of a list.
func pick[T any](r *rand.Rand, list ...T) T { return list[r.Intn(len(list))] }

// chance: a node, often nearly right.
func chance(r *rand.Rand) api.Node {
	n := api.Node{Kind: pick(r, 1, 1, 2, 2, 3, 3, 3, 0, 4)}
	if n.Kind == 1 || r.Intn(20) == 0 {
		n.Data = text(pick(r, 0, 1, 2, 63, 64, 65))
	}
	if n.Kind == 2 || r.Intn(20) == 0 {
		n.Size = pick(r, -1, 0, 1, 63, 64, 65, 128, 129, 1023, 1024, 1025)
		n.Parts = parts(max(0, (n.Size+63)/64+pick(r, 0, 0, 0, 0, 1, -1)))
	}
	if n.Kind == 3 || r.Intn(20) == 0 {
		for range r.Intn(4) {
			n.Items = append(n.Items, api.Item{Name: pick(r, "a", "ab", "b", "c", "d", "e", "f", "..", text(16), text(17)), Kind: pick(r, 2, 2, 2, 3, 3, 3, 1, 0), Sum: digest(r.Intn(9))})
		}
		if r.Intn(4) > 0 {
			slices.SortFunc(n.Items, func(a, b api.Item) int { return strings.Compare(a.Name, b.Name) })
		}
	}
	return n
}

// lawful: whether a node is right, of the names that chance gives.
func lawful(n api.Node) bool {
	names := map[string]int{}
	for i, item := range n.Items {
		names[item.Name]++
		if item.Name == ".." || len(item.Name) > 16 || item.Kind < 2 || item.Kind > 3 || names[item.Name] > 1 || i > 0 && n.Items[i-1].Name > item.Name {
			return false
		}
	}
	switch n.Kind {
	case api.NodeChunk:
		return len(n.Data) >= 1 && len(n.Data) <= 64 && n.Size == 0 && len(n.Parts) == 0 && len(n.Items) == 0
	case api.NodeFile:
		room := 64 * len(n.Parts)
		return n.Data == "" && n.Size >= 0 && n.Size <= 1024 && n.Size <= room && n.Size > room-64 && len(n.Items) == 0
	}
	return n.Kind == api.NodeDir && n.Data == "" && n.Size == 0 && len(n.Parts) == 0 && len(n.Items) <= 64
}

// Rule 3: what is handed in isn't changed, its spare room neither.
func TestArgumentsStay(t *testing.T) {
	spareParts, spareItems := parts(20), items(70)
	for _, r := range []api.Node{
		chunk("ab"),
		{Kind: api.NodeFile, Size: 65, Parts: spareParts[:2]},
		{Kind: api.NodeDir, Items: spareItems[:2]},
		{Kind: api.NodeDir, Items: []api.Item{{Name: "b"}, {Name: "a"}}},
		{Kind: 7, Size: 9, Parts: spareParts[:3], Items: spareItems[:3]},
	} {
		was := clone(r)
		node.Check(r)
		node.Encode(r)
		node.Find(r, "a")
		node.Kids(r)
		if !same(r, was) {
			t.Errorf("a node was changed: %v, it was %v", r, was)
		}
	}
	if !slices.Equal(spareParts, parts(20)) || !slices.Equal(spareItems, items(70)) {
		t.Error("spare room was written to")
	}
	for _, n := range sample() {
		b := append(spell(n), "spare"...)
		was := slices.Clone(b)
		node.Decode(b[:len(b)-5])
		node.Decode(b)
		if !bytes.Equal(b, was) {
			t.Errorf("bytes were changed: %.40x", b)
		}
	}
}

// Rule 3: what is handed in may be written over behind the call; what is answered is new memory.
func TestAnswersAreNew(t *testing.T) {
	for _, n := range sample() {
		own := clone(n)
		b, _ := node.Encode(own)
		kids := node.Kids(own)
		want := node.Kids(n)
		clear(own.Parts)
		clear(own.Items)
		if !bytes.Equal(b, spell(n)) || !slices.Equal(kids, want) {
			t.Errorf("an answer went with its argument: %s", show(n))
		}

		again, _ := node.Encode(n)
		clear(again)
		other := node.Kids(n)
		clear(other)
		if !bytes.Equal(b, spell(n)) || !slices.Equal(kids, want) || !slices.Equal(node.Kids(n), want) {
			t.Errorf("two answers share memory: %s", show(n))
		}

		got, _ := node.Decode(b)
		twin, _ := node.Decode(b)
		clear(b)
		clear(twin.Parts)
		clear(twin.Items)
		if !same(got, n) {
			t.Errorf("Decode: the node went with its bytes, or with another answer: %s", show(got))
		}
	}
	item, _ := node.Find(named("a"), "a")
	list := named("a")
	found, _ := node.Find(list, "a")
	clear(list.Items)
	if found != item {
		t.Errorf("Find: the item went with the node: %v", found)
	}
}

// Rule 6: great lists and texts, which are no node's, are answered all the same.
func TestGreatInputs(t *testing.T) {
	many := make([]api.Item, 1<<18)
	wrong(t, "many items", api.Node{Kind: api.NodeDir, Items: many})
	wrong(t, "many parts", api.Node{Kind: api.NodeFile, Size: 1024, Parts: make([]api.Digest, 1<<16)})
	wrong(t, "a long text", chunk(text(1<<20)))
	wrong(t, "a long name", named(text(1<<20)))
	noNode(t, "many bytes", make([]byte, 1<<20))
	noNode(t, "many bytes", bytes.Repeat([]byte{0x80}, 1<<20))
	noNode(t, "many bytes", bytes.Repeat([]byte{0x03}, 1<<20))
	if got := node.Kids(api.Node{Items: many}); len(got) != len(many) {
		t.Errorf("Kids: %d", len(got))
	}
	if got, ok := node.Find(api.Node{Items: many}, "a"); ok || got != (api.Item{}) {
		t.Errorf("Find: %v, %v", got, ok)
	}
}
