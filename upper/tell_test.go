package upper_test

import (
	"slices"
	"strings"
	"testing"

	"veneer/api"
	"veneer/upper"
	"veneer/vpath"
)

// lacks: Get must find nothing.
func lacks(t *testing.T, u *upper.Upper, names []string) {
	t.Helper()
	if got, there := u.Get(names); there || got != (api.Inode{}) {
		t.Errorf("P12.3: Get(%.80q): %s, %v; want none", names, show(got), there)
	}
}

// below: Below must tell just these.
func below(t *testing.T, u *upper.Upper, names []string, want ...api.Inode) {
	t.Helper()
	if got := u.Below(names); !slices.Equal(got, want) {
		t.Errorf("P12.3: Below(%.80q): %s; want %s", names, show(got), show(want))
	}
}

// drops: Drop must answer this, and leave these.
func drops(t *testing.T, u *upper.Upper, names []string, gone int, left ...api.Inode) {
	t.Helper()
	if got := u.Drop(names); got != gone {
		t.Errorf("P12.3: Drop(%.80q): %d; want %d", names, got, gone)
	}
	has(t, "P12.3: behind a Drop of "+show(names), u, left...)
}

// P12.3: Get of paths that are there and that aren't, of the root, of names that are no path.
func TestGet(t *testing.T) {
	u := made(t, several()...)
	has(t, "P12.3: Get", u, several()...)
	for _, path := range []string{"n", "n m", "a n", "a a x x", "a a n", "f x", "w x", "A", "a-", "a.", "aaa", "aa x", "d d d d d d d", "d d d d d d d n", "e n", "b", "c", "x", "a a a"} {
		if _, there := u.Get(list(path)); there != (path == "d d d d d d d") {
			t.Errorf("P12.3: Get of %q: %v", path, there)
		}
	}
	for _, u := range []*upper.Upper{u, made(t), made(t, full()...)} {
		lacks(t, u, nil)
		lacks(t, u, []string{})
		for _, names := range noPaths() {
			lacks(t, u, names)
		}
	}
	u.Drop(list("a"))
	for _, i := range several()[:6] {
		lacks(t, u, strings.Split(i.Path, "/")[1:])
	}
	lacks(t, made(t), list("a"))
}

// P12.3: Below of all shapes: what begins alike doesn't lie below, nor does the path itself.
func TestBelow(t *testing.T) {
	u, all := made(t, several()...), several()
	below(t, u, nil, all...)
	below(t, u, []string{}, all...)
	below(t, u, list("a"), all[1:6]...)
	below(t, u, list("a a"), all[2:4]...)
	below(t, u, list("a.b"), all[8])
	below(t, u, list("d"), all[11:20]...)
	below(t, u, list("d d d d d d"), all[16:20]...)
	below(t, u, list("d d d d d d d"), all[17:20]...)
	for _, path := range []string{"a a x", "a a y", "a b", "a c", "a-b", "aa", "e", "f", "w", "z", "d d d d d d d e", "d d d d d d d f", "n", "n m", "a n", "f x", "a-", "a a x x"} {
		below(t, u, list(path))
	}
	for _, names := range noPaths() {
		below(t, u, names)
	}
	below(t, made(t), nil)
	below(t, made(t), list("a"))
	below(t, made(t, full()...), list("d"), full()[1:501]...)
}

// P12.3: the order is that of paths, not that of their texts, nor that in which they came.
func TestOrder(t *testing.T) {
	want := []api.Inode{
		dir("/-"), dir("/-/z"), dir("/..."), dir("/0"), dir("/A"), dir("/_"), dir("/a"), dir("/a/-"), dir("/a/a"), dir("/a/a/z"), dir("/a/a-"), dir("/a/b"),
		dir("/a-"), dir("/a-/a"), dir("/a--"), dir("/a."), dir("/a0"), dir("/aa"), dir("/aa/a"), dir("/b"),
	}
	came := slices.Clone(want)
	slices.SortFunc(came, func(a, b api.Inode) int { return len(a.Path) - len(b.Path) })
	has(t, "P12.3: in another order", made(t, came...), want...)
	below(t, made(t, came...), list("a"), want[7:12]...)
	texts := slices.IsSortedFunc(want, func(a, b api.Inode) int { return strings.Compare(a.Path, b.Path) })
	paths := slices.IsSortedFunc(want, func(a, b api.Inode) int {
		x, _ := vpath.Parse(a.Path)
		y, _ := vpath.Parse(b.Path)
		return vpath.Compare(x, y)
	})
	if texts || !paths {
		t.Errorf("P12.3: the sample tells nothing of the order")
	}
}

// P12.3: Drop of all shapes: how many are gone, and what is left.
func TestDrop(t *testing.T) {
	all := several()
	for _, r := range []struct {
		path     string
		from, to int
	}{
		{"", 0, 24}, {"a", 0, 6}, {"a a", 1, 4}, {"a a x", 2, 3}, {"a a y", 3, 4}, {"a b", 4, 5}, {"a c", 5, 6}, {"a-b", 6, 7}, {"a.b", 7, 9}, {"a.b x", 8, 9}, {"aa", 9, 10},
		{"d", 10, 20}, {"d d d d", 13, 20}, {"d d d d d d d", 16, 20}, {"d d d d d d d f", 18, 19}, {"e", 20, 21}, {"f", 21, 22}, {"w", 22, 23}, {"z", 23, 24},
	} {
		u := made(t, all...)
		left := slices.Delete(slices.Clone(all), r.from, r.to)
		drops(t, u, list(r.path), r.to-r.from, left...)
		drops(t, u, list(r.path), 0, left...)
		for _, i := range all[r.from:r.to] {
			puts(t, u, i, api.OK)
		}
		has(t, "P12.3: put again", u, all...)
	}
	u := made(t, all...)
	for _, path := range []string{"n", "n m", "a n", "f x", "a-", "a a x x", "w w", "A", "d d d d d d d n"} {
		drops(t, u, list(path), 0, all...)
	}
	for _, names := range noPaths() {
		drops(t, u, names, 0, all...)
	}
	drops(t, u, []string{}, len(all))
	drops(t, u, nil, 0)
	puts(t, u, file("/a/b", ""), api.ErrNone)
	drops(t, made(t, full()...), nil, api.MaxInodes)
	drops(t, made(t, full()...), list("d"), 501, full()[501:]...)
}

// P12.4: Count, Size and Over, at the quotas and above them, each alone and both.
func TestOver(t *testing.T) {
	for count := range 6 {
		for _, size := range []int{0, 1, 2, 5, 100} {
			for nodes := range 7 {
				for _, bytes := range []int{0, 1, 2, 3, 4, 5, 6, 99, 100, 101, 8192} {
					u := madeOf(t, nodes, bytes)
					for i := range count {
						puts(t, u, kinds("/" + string(rune('a'+i)))[2+i%3], api.OK)
					}
					data := 0
					if count > 0 {
						puts(t, u, file("/a", text(size)), api.OK)
						data = size
					}
					if u.Count() != count || u.Size() != data || u.Over() != (count > nodes || data > bytes) {
						t.Errorf("P12.4: quotas %d, %d: Count %d, Size %d, Over %v; want %d, %d", nodes, bytes, u.Count(), u.Size(), u.Over(), count, data)
					}
				}
			}
		}
	}
}

// over: what Count, Size and Over must answer.
func over(t *testing.T, u *upper.Upper, count, size int, over bool) {
	t.Helper()
	if u.Count() != count || u.Size() != size || u.Over() != over {
		t.Errorf("P12.4: %d, %d, %v; want %d, %d, %v", u.Count(), u.Size(), u.Over(), count, size, over)
	}
}

// P12.4: Count, Size and Over behind Puts and Drops of one upper branch.
func TestOverBehind(t *testing.T) {
	u := madeOf(t, 3, 10)
	over(t, u, 0, 0, false)
	for _, r := range []struct {
		i           api.Inode
		count, size int
		over        bool
	}{
		{dir("/a"), 1, 0, false}, {file("/a/f", text(4)), 2, 4, false}, {file("/g", text(6)), 3, 10, false}, {file("/g", text(7)), 3, 11, true}, {file("/g", text(1024)), 3, 1028, true}, {file("/g", ""), 3, 4, false},
		{white("/h"), 4, 4, true}, {file("/g", text(7)), 4, 11, true}, {white("/g"), 4, 4, true}, {dir("/g"), 4, 4, true}, {opaque("/g"), 4, 4, true}, {file("/g", "x"), 4, 5, true}, {file("/a/f", text(5)), 4, 6, true},
	} {
		puts(t, u, r.i, api.OK)
		over(t, u, r.count, r.size, r.over)
	}
	puts(t, u, file("/n/n", "xyz"), api.ErrNone)
	puts(t, u, file("/g", text(1025)), api.ErrBig)
	over(t, u, 4, 6, true)
	u.Drop(list("h"))
	over(t, u, 3, 6, false)
	puts(t, u, file("/a/f", text(9)), api.OK)
	over(t, u, 3, 10, false)
	u.Drop(list("a"))
	over(t, u, 1, 1, false)
	u.Drop(nil)
	over(t, u, 0, 0, false)
	over(t, madeOf(t, 128, 8192, full()[:128]...), 128, 127, false)
	over(t, madeOf(t, 128, 8192, full()[:129]...), 129, 128, true)
	var big []api.Inode
	for i := range 8 {
		big = append(big, file("/"+string(rune('a'+i)), text(1024)))
	}
	u = madeOf(t, 128, 8192, big...)
	over(t, u, 8, 8192, false)
	puts(t, u, file("/more", "x"), api.OK)
	over(t, u, 9, 8193, true)
}

// P12.4: a clone is the same in all, and goes on apart, either way.
func TestClone(t *testing.T) {
	deeds := []func(u *upper.Upper){
		func(u *upper.Upper) { u.Put(file("/new", "x")) },
		func(u *upper.Upper) { u.Put(file("/f", "other")) },
		func(u *upper.Upper) { u.Put(dir("/f")) },
		func(u *upper.Upper) { u.Put(opaque("/a")) },
		func(u *upper.Upper) { u.Put(file("/e/new", "x")) },
		func(u *upper.Upper) { u.Drop(list("a")) },
		func(u *upper.Upper) { u.Drop(list("f")) },
		func(u *upper.Upper) { u.Drop(nil) },
	}
	for _, quota := range [][2]int{{128, 8192}, {0, 0}, {24, 1200}, {5, 8192}, {128, 7}} {
		for _, deed := range deeds {
			u := madeOf(t, quota[0], quota[1], several()...)
			c := u.Clone()
			bytes := string(u.Encode())
			if string(c.Encode()) != bytes || c.Over() != u.Over() {
				t.Errorf("P12.4: a clone has other bytes, or is over")
			}
			deed(u)
			has(t, "P12.4: a clone of what went on", c, several()...)
			if string(u.Encode()) == bytes || string(c.Encode()) != bytes {
				t.Errorf("P12.4: a clone's bytes go with what was cloned")
			}
			deed(c)
			has(t, "P12.4: a clone that did the same", c, u.Below(nil)...)
			u = madeOf(t, quota[0], quota[1], several()...)
			deed(u.Clone())
			has(t, "P12.4: what was cloned", u, several()...)
		}
	}
	u := made(t)
	c := u.Clone().Clone()
	puts(t, c, dir("/a"), api.OK)
	has(t, "P12.4: an empty one that was cloned", u)
	puts(t, c, dir("/a/b"), api.OK)
	has(t, "P12.4: a clone's clone", c, dir("/a"), dir("/a/b"))
}

// P12.4: of a nil one.
func TestNil(t *testing.T) {
	var u *upper.Upper
	for _, i := range append(several(), api.Inode{}, dir("/"), dir("x"), api.Inode{Path: "/a", Kind: 9}, file("/n/n", ""), file("/f", text(1025))) {
		if e := u.Put(i); e != api.ErrNil {
			t.Errorf("P12.4: of nil, Put(%s): %d; want ErrNil", show(i), e)
		}
	}
	for _, names := range append(noPaths(), nil, []string{}, list("a"), list("a b")) {
		lacks(t, u, names)
		if got := u.Drop(names); got != 0 {
			t.Errorf("P12.4: of nil, Drop: %d", got)
		}
		below(t, u, names)
	}
	over(t, u, 0, 0, false)
	if u.Clone() != nil || len(u.Encode()) != 0 {
		t.Errorf("P12.4: of nil, Clone or Encode")
	}
}

// Rule 3: names that are handed in aren't changed, their spare room neither, and may be written over behind the call.
func TestNamesHandedIn(t *testing.T) {
	u := made(t, several()...)
	whole := list("a a x more behind")
	for n := range 4 {
		u.Get(whole[:n])
		u.Below(whole[:n])
		u.Clone().Drop(whole[:n])
		if !slices.Equal(whole, list("a a x more behind")) {
			t.Errorf("rule 3: names were changed: %q", whole)
		}
	}
	names := list("a a")
	u.Drop(names)
	got := u.Below(list("a"))
	names[0], names[1] = "f", "f"
	has(t, "rule 3: names written over", u, slices.Delete(several(), 1, 4)...)
	if !slices.Equal(got, several()[4:6]) {
		t.Errorf("rule 3: an answer goes with names: %s", show(got))
	}
}

// Rule 3: what is answered is new memory, and doesn't go with what is done behind it.
func TestAnswersAreNew(t *testing.T) {
	u := made(t, several()...)
	a, b := u.Below(nil), u.Below(nil)
	x, y := u.Encode(), u.Encode()
	_ = append(a, dir("/more"))
	_ = append(x, 1, 2, 3)
	clear(a)
	clear(x)
	if !slices.Equal(b, several()) || string(y) != spell(128, 8192, several()...) {
		t.Errorf("rule 3: two answers share memory")
	}
	has(t, "rule 3: answers written over", u, several()...)
	if string(u.Encode()) != string(y) {
		t.Errorf("rule 3: the bytes go with an answer")
	}
	part := u.Below(list("a"))
	u.Drop(list("a a"))
	puts(t, u, file("/a/b", "other"), api.OK)
	if !slices.Equal(part, several()[1:6]) || !slices.Equal(b, several()) || string(y) != spell(128, 8192, several()...) {
		t.Errorf("rule 3: an answer goes with what is done behind it")
	}
}
