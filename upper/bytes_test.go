package upper_test

import (
	"slices"
	"strings"
	"testing"

	"veneer/api"
	"veneer/upper"
)

// P12.4, P12.5: bytes, one by one.
func TestBytesExamples(t *testing.T) {
	for _, r := range []struct {
		u    *upper.Upper
		want string
	}{
		{madeOf(t, 0, 0), "\x00\x00\x00"},
		{madeOf(t, 3, 2), "\x03\x02\x00"},
		{madeOf(t, 128, 8192), "\x80\x01\x80\x40\x00"},
		{madeOf(t, 9, 99, dir("/a")), "\x09\x63\x01\x02/a\x02\x00\x00"},
		{madeOf(t, 9, 99, opaque("/a")), "\x09\x63\x01\x02/a\x02\x01\x00"},
		{madeOf(t, 9, 99, white("/a")), "\x09\x63\x01\x02/a\x03\x00\x00"},
		{madeOf(t, 9, 99, file("/a", "")), "\x09\x63\x01\x02/a\x01\x00\x00"},
		{madeOf(t, 0, 0, file("//a/", "hi")), "\x00\x00\x01\x02/a\x01\x00\x02hi"},
		{madeOf(t, 1, 1, white("/a-b"), opaque("/a"), file("/a/f", "hi")), "\x01\x01\x03\x02/a\x02\x01\x00\x04/a/f\x01\x00\x02hi\x04/a-b\x03\x00\x00"},
	} {
		if got := string(r.u.Encode()); got != r.want {
			t.Errorf("P12.4: Encode: %x; want %x", got, r.want)
		}
		means(t, "an example", r.want, r.u.Below(nil)...)
	}
	for _, size := range []int{0, 1, 127, 128, 129, 1023, 1024} {
		u := madeOf(t, 127, 8191, file("/f", text(size)))
		if got := string(u.Encode()); got != spell(127, 8191, file("/f", text(size))) {
			t.Errorf("P12.4: Encode of a file of %d bytes: %.80x", size, got)
		}
	}
}

// P12.4, P12.5: what Encode writes is what the chapter says, and Decode reads it: quotas of all sizes, above which there are inodes, too; as many inodes as there may be.
func TestBytesOfMany(t *testing.T) {
	for _, nodes := range []int{0, 1, 127, 128} {
		for _, bytes := range []int{0, 1, 127, 128, 8191, 8192} {
			for _, all := range [][]api.Inode{nil, {dir("/a")}, several(), full()[:127], full()[:128], full()} {
				u := madeOf(t, nodes, bytes, all...)
				want := spell(uint64(nodes), uint64(bytes), all...)
				if string(u.Encode()) != want {
					t.Errorf("P12.4: Encode of %d inodes, quotas %d, %d: %.80x", len(all), nodes, bytes, u.Encode())
				}
				if got := means(t, "what Encode wrote", want, all...); got != nil && got.Over() != u.Over() {
					t.Errorf("P12.5: Over is %v, quotas %d, %d", got.Over(), nodes, bytes)
				}
			}
		}
	}
}

// P12.5: bytes that are cut off anywhere, or have more behind them.
func TestDecodeOtherLengths(t *testing.T) {
	nothing(t, "no bytes", "")
	if u, e := upper.Decode(nil); u != nil || e != api.ErrForm {
		t.Errorf("P12.5: Decode(nil): %d", e)
	}
	for _, all := range [][]api.Inode{nil, {file("/a", "hi")}, {white("/a")}, {opaque("/a"), dir("/a/b")}, several()} {
		b := spell(128, 8192, all...)
		for at := range b {
			nothing(t, "cut off", b[:at])
		}
		for _, more := range []string{"\x00", "\x01", "\x80", "\xff", "\x00\x00\x00", "\x02/n\x02\x00\x00", b} {
			nothing(t, "with more behind", b+more)
		}
	}
}

// P12.5: how many inodes there are must be what is told.
func TestDecodeCounts(t *testing.T) {
	body := strings.Join(fields(9, 9, several()...)[3:], "")
	for _, count := range []uint64{0, 1, 23, 25, 26, 1023, 1024, 1025, 1 << 20, 1 << 32, 1<<32 + 24, 1<<63 + 24, 1<<64 - 1} {
		nothing(t, "another count", num(9)+num(9)+num(count)+body)
	}
	means(t, "its own count", num(9)+num(9)+num(24)+body, several()...)
	more := full()
	for _, path := range []string{"/o", "/p", "/q"} {
		more = append(more, white(path))
		nothing(t, "more than MaxInodes", spell(9, 9, more...))
	}
}

// P12.5: another order, a path twice.
func TestDecodeOrder(t *testing.T) {
	all := several()
	for i := range all {
		for k := range i {
			other := slices.Clone(all)
			other[i], other[k] = other[k], other[i]
			nothing(t, "two of them the other way round", spell(128, 8192, other...))
		}
		nothing(t, "a path twice", spell(128, 8192, slices.Insert(slices.Clone(all), i, all[i])...))
		for _, k := range []int{0, len(all)} {
			nothing(t, "a path twice, apart", spell(128, 8192, slices.Insert(slices.Clone(all), k, all[i])...))
		}
		for _, twin := range kinds(all[i].Path) {
			nothing(t, "a path twice, with another kind", spell(128, 8192, slices.Insert(slices.Clone(all), i, twin)...))
		}
	}
	nothing(t, "the order of texts", spell(9, 9, dir("/a"), dir("/a-b"), dir("/a/c")))
	nothing(t, "falling", spell(9, 9, dir("/b"), dir("/a")))
	means(t, "the order of paths", spell(9, 9, dir("/a"), dir("/a/c"), dir("/a-b")), dir("/a"), dir("/a/c"), dir("/a-b"))
}

// P12.5: texts that are no path's, or not clean.
func TestDecodePaths(t *testing.T) {
	for _, path := range []string{"", "/", "//", "/.", "/..", "a", "a/", "./a", "/a/", "//a", "/./a", "/a/.", "/../a", "/x/../a", "/a/b/..", "/a b", "/a\x00", "/é", "\\a", "/" + text(17), "/" + text(300), strings.Repeat("/", 255) + "a", strings.Repeat("/a", 9)} {
		for _, i := range kinds(path) {
			nothing(t, "a path", spell(128, 8192, i))
			nothing(t, "a path behind another", spell(128, 8192, dir("/-"), i))
		}
	}
	for _, path := range []string{"/a/./b", "/a//b", "/a/b/", "//a/b", "/a/c/../b", "/x/../a/b", "/a/b/.", "/a/.."} {
		nothing(t, "a path below a directory", spell(128, 8192, dir("/a"), file(path, "")))
	}
	for _, path := range []string{"/a", "/-", "/...", "/" + text(16), "/aB._-09"} {
		for _, i := range kinds(path) {
			means(t, "a path that is one", spell(128, 8192, i), i)
		}
	}
	long := "/" + strings.Join(slices.Repeat([]string{text(16)}, 8), "/")
	var deep []api.Inode
	for n := range 8 {
		deep = append(deep, dir(long[:17*(n+1)]))
	}
	means(t, "the longest path", spell(128, 8192, deep...), deep...)
}

// P12.5: a kind or a flag that isn't one, fields that a kind may not have, inodes in a place where none may be.
func TestDecodeInodes(t *testing.T) {
	for _, kind := range noKinds() {
		nothing(t, "no kind", spell(9, 9, api.Inode{Path: "/a", Kind: kind}))
		nothing(t, "no kind, with data", spell(9, 9, api.Inode{Path: "/a", Kind: kind, Data: "x"}))
	}
	for flag := range 256 {
		for _, i := range kinds("/a") {
			f := fields(9, 9, i)
			f[5] = string([]byte{byte(flag)})
			b := strings.Join(f, "")
			i.Opaque = flag == 1
			if flag > 1 || i.Opaque && i.Kind != api.InodeDir {
				nothing(t, "a flag", b)
			} else {
				means(t, "a flag", b, i)
			}
		}
	}
	for _, size := range []int{1, 2, 1024, 1025, 70000} {
		nothing(t, "a directory with data", spell(9, 9, api.Inode{Path: "/a", Kind: api.InodeDir, Data: text(size)}))
		nothing(t, "a whiteout with data", spell(9, 9, api.Inode{Path: "/a", Kind: api.InodeWhite, Data: text(size)}))
		if size > 1024 {
			nothing(t, "a file that is too big", spell(9, 9, file("/a", text(size))))
		}
	}
	for _, i := range kinds("/a/b") {
		nothing(t, "a directory that lacks", spell(9, 9, i))
		nothing(t, "a directory that lacks", spell(9, 9, dir("/A"), i))
		nothing(t, "a directory that lacks", spell(9, 9, dir("/a-"), i, dir("/aa")))
		nothing(t, "a directory that comes behind", spell(9, 9, i, dir("/a")))
		nothing(t, "a directory that is a file", spell(9, 9, file("/a", ""), i))
		nothing(t, "a directory that is a whiteout", spell(9, 9, white("/a"), i))
		means(t, "a directory", spell(9, 9, dir("/a"), i), dir("/a"), i)
		means(t, "an opaque directory", spell(9, 9, opaque("/a"), i), opaque("/a"), i)
	}
	nothing(t, "one between lacks", spell(9, 9, dir("/a"), file("/a/b/c", "")))
}

// P12.5: quotas that New doesn't take.
func TestDecodeQuotas(t *testing.T) {
	for _, all := range [][]api.Inode{nil, {dir("/a")}, several()} {
		for _, n := range []uint64{129, 130, 8192, 8193, 1 << 31, 1 << 32, 1<<32 + 5, 1 << 62, 1 << 63, 1<<63 + 5, 1<<64 - 1} {
			nothing(t, "a quota of inodes", spell(n, 0, all...))
			nothing(t, "both quotas", spell(n, n+8192, all...))
			if n > 8192 {
				nothing(t, "a quota of bytes", spell(0, n, all...))
			}
		}
		means(t, "the least quotas", spell(0, 0, all...), all...)
		means(t, "the greatest quotas", spell(128, 8192, all...), all...)
	}
}

// P12.5: numbers that aren't in their shortest form, or have more than 64 bits, at each place where there is one.
func TestDecodeOtherNumbers(t *testing.T) {
	for _, i := range kinds("/a") {
		right := fields(9, 9, i)
		for at := range right {
			if at == 5 { // the flag
				continue
			}
			for _, tail := range []string{"\x00", "\x80\x00", "\x80\x80\x80\x80\x80\x80\x80\x80\x80\x00", "\x80\x80\x80\x80\x80\x80\x80\x80\x02", "\x80\x80\x80\x80\x80\x80\x80\x80\x80\x01"} {
				f := slices.Clone(right)
				f[at] = string([]byte{f[at][0] | 0x80}) + tail + f[at][1:]
				nothing(t, "a number in another form", strings.Join(f, ""))
			}
		}
		for at := range right {
			for _, huge := range []string{"\xff\xff\xff\xff\xff\xff\xff\xff\xff\x01", "\xff\xff\xff\xff\x0f", "\xff\xff\xff\xff\xff\xff\xff\xff\x7f"} {
				f := slices.Clone(right)
				f[at] = huge
				nothing(t, "a huge number", strings.Join(f, ""))
			}
		}
	}
}

// P12.5: of all short bytes out of a few those alone are taken that mean an upper branch.
func TestDecodeAllShort(t *testing.T) {
	const most = 8
	letters := "\x00\x01\x02\x03/a"
	right := map[string]int{spell(0, 0): 0}
	for _, path := range []string{"/a", "/aa"} {
		all := kinds(path)
		for _, letter := range letters {
			all = append(all, file(path, string(letter)))
		}
		for _, i := range all {
			if b := spell(0, 0, i); strings.Trim(b, letters) == "" && len(b) <= 2+most {
				right[b] = 0
			}
		}
	}
	var try func(b []byte)
	try = func(b []byte) {
		_, ok := right[string(b)]
		if u, e := upper.Decode(b); ok != (e == api.OK) || ok != (u != nil) {
			t.Fatalf("P12.5: Decode(%x): %d", b, e)
		} else if ok {
			right[string(b)]++
		}
		if len(b) == 2+most {
			return
		}
		for i := range len(letters) {
			try(append(slices.Clone(b), letters[i]))
		}
	}
	try([]byte{0, 0})
	for b, met := range right {
		if met != 1 {
			t.Errorf("P12.5: %x was met %d times", b, met)
		}
	}
	if len(right) != 15 {
		t.Errorf("P12.5: %d short bytes are right; want 15", len(right))
	}
}

// P12.5: of bytes of which one was changed: what Decode takes, Encode answers.
func TestDecodeChanged(t *testing.T) {
	taken := 0
	for _, all := range [][]api.Inode{nil, {file("/a", "hi")}, {opaque("/a"), file("/a/b", ""), white("/c")}, several()[:12]} {
		b := []byte(spell(12, 80, all...))
		for at := range b {
			for v := range 256 {
				other := slices.Clone(b)
				other[at] = byte(v)
				u, e := upper.Decode(other)
				switch {
				case e == api.OK && string(u.Encode()) == string(other):
					taken++
				case e != api.ErrForm || u != nil:
					t.Errorf("P12.5: Decode(%x): %d", other, e)
				}
			}
		}
	}
	if taken < 1000 {
		t.Errorf("P12.5: only %d were taken", taken)
	}
}

// Rule 3: bytes that are handed in aren't changed, their spare room neither, and may be written over behind the call.
func TestBytesHandedIn(t *testing.T) {
	right := spell(128, 8192, several()...)
	whole := []byte(right + "spare room")
	u, e := upper.Decode(whole[:len(right)])
	if e != api.OK {
		t.Fatalf("P12.5: %d", e)
	}
	puts(t, u, file("/n", "x"), api.OK)
	u.Drop(list("n"))
	if string(whole) != right+"spare room" {
		t.Errorf("rule 3: the bytes were changed")
	}
	clear(whole)
	has(t, "rule 3: bytes written over", u, several()...)
	if string(u.Encode()) != right {
		t.Errorf("rule 3: the bytes go with those handed in")
	}
}
