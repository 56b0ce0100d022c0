package union_test

import (
	"slices"
	"testing"

	"veneer/api"
	"veneer/union"
)

// all: an operation of each kind that is done over low, and some that are refused.
func all() []api.Op {
	return []api.Op{
		mkdir("/n"), create("/n/x"), write("/a/f", 2, "!"), truncate("/a/f", 1), rename("/a", "/c"), unlink("/b"), mkdir("/a"), rmdir("/a"), rename("/n/x", "/c/f"),
		read("/c/f", 0, 9), list("/c"), stat("/c"), forget(1), unlink("/none"), mkdir("/c"), {Kind: 99},
	}
}

// apart: what is done to one must say nothing to the other.
func apart(t *testing.T, what string, one, other *union.Union) {
	t.Helper()
	for _, o := range all() {
		files, inodes := other.List(), other.Upper().Below(nil)
		one.Do(o)
		sees(t, "P13.3: "+what+": behind "+show(o), other, files...)
		has(t, "P13.3: "+what+": behind "+show(o), other, inodes...)
	}
}

func TestClone(t *testing.T) {
	first := made(t, branch(t, fileNode("/o", "1")), low)
	second := first.Clone()
	third := second.Clone()
	sees(t, "P13.3: a clone", second, append(low[:3:3], file("/o", "1"))...)
	has(t, "P13.3: a clone", second, fileNode("/o", "1"))
	apart(t, "the first one goes on", first, second)
	apart(t, "the clone goes on", second, third)
	apart(t, "the clone's clone goes on", third, first)
	if !slices.Equal(first.List(), second.List()) || !slices.Equal(first.List(), third.List()) || !slices.Equal(first.Upper().Below(nil), third.Upper().Below(nil)) {
		t.Errorf("P13.3: clones to which the same is done see %s, %s, %s", show(first.List()), show(second.List()), show(third.List()))
	}
	// In the midst: each with what it had then.
	x := made(t, branch(t), low)
	for i, o := range all() {
		x.Do(o)
		c := x.Clone()
		apart(t, "a clone in the midst", c, x)
		if i%2 == 0 {
			apart(t, "a clone of a clone in the midst", c.Clone(), c)
		}
	}
	if f := made(t, branchOf(t, 1, 1), low).Clone(); f != nil {
		answers(t, f, mkdir("/1"), api.Result{})
		refuses(t, f, mkdir("/2"), api.ErrFull) // its quotas are the same
		refuses(t, f.Clone(), mkdir("/2"), api.ErrFull)
	}
}

func TestUpper(t *testing.T) {
	x := made(t, branchOf(t, 5, 50, dirNode("/a"), white("/b")), low)
	u := x.Upper()
	if want := branchOf(t, 5, 50, dirNode("/a"), white("/b")); string(u.Encode()) != string(want.Encode()) {
		t.Errorf("P13.3: Upper: %x; want %x", u.Encode(), want.Encode())
	}
	u.Drop(nil)
	u.Put(fileNode("/a", "over"))
	has(t, "P13.3: behind changes to Upper's answer", x, dirNode("/a"), white("/b"))
	sees(t, "P13.3: behind changes to Upper's answer", x, dir("/a"), file("/a/f", "hi"))
	if x.Shown(names("/a/f")) != true {
		t.Error("P13.3: Shown behind changes to Upper's answer")
	}
	was := x.Upper()
	bytes := string(was.Encode())
	for _, o := range all() {
		x.Do(o)
	}
	if string(was.Encode()) != bytes {
		t.Error("P13.3: Upper's answer has changed with the union")
	}
	if x.Upper() == x.Upper() || x.Clone() == x {
		t.Error("P13.3: no clones")
	}
}

func TestNil(t *testing.T) {
	var none *union.Union
	for _, o := range append(all(), mkdir("no path"), api.Op{}, api.Op{Kind: -7, Path: "x"}) {
		r, err := none.Do(o)
		if !same(r, api.Result{Code: api.ErrNil}) {
			t.Errorf("P13.3: nil: Do(%s): %s", show(o), show(r))
		}
		errs(t, o, api.ErrNil, err)
	}
	if l := none.List(); len(l) != 0 {
		t.Errorf("P13.3: nil: List: %s", show(l))
	}
	if none.Shown(nil) || none.Shown(names("/a")) || none.Shown([]string{"", "/"}) {
		t.Error("P13.3: nil: Shown")
	}
	if none.Upper() != nil || none.Clone() != nil {
		t.Error("P13.3: nil: Upper, Clone")
	}
}

// Rule 3: what is handed in isn't changed, its spare room neither, and isn't kept.
func TestHandedIn(t *testing.T) {
	s, roots := kept(t, low, layer(file("/z", "")))
	spare := append(roots, api.Digest{7}, api.Digest{8})
	was := slices.Clone(spare)
	u := branch(t, fileNode("/o", "1"))
	bytes, blobs := string(u.Encode()), slices.Collect(s.All())
	x := over(t, s, spare[:2], u)
	want := append(low[:3:3], file("/o", "1"), file("/z", ""))
	if !slices.Equal(spare, was) || string(u.Encode()) != bytes || !slices.Equal(slices.Collect(s.All()), blobs) {
		t.Error("rule 3: New has changed what it was handed")
	}
	clear(spare)
	sees(t, "rule 3: behind New", x, want...)

	path := []string{"a", "f", "spare", "room"}
	if !x.Shown(path[:2]) || !slices.Equal(path, []string{"a", "f", "spare", "room"}) {
		t.Error("rule 3: Shown has changed what it was handed")
	}
	clear(path)
	for _, o := range all() {
		x.Do(o)
	}
	if string(u.Encode()) != bytes || !slices.Equal(slices.Collect(s.All()), blobs) {
		t.Error("rule 3: Do has changed what New was handed")
	}
}

// Rule 3: what is answered is new memory.
func TestAnswered(t *testing.T) {
	x := made(t, branch(t, fileNode("/o", "1")), low)
	want := append(low[:3:3], file("/o", "1"))
	one, two := x.List(), x.List()
	clear(one)
	if !slices.Equal(two, want) {
		t.Error("rule 3: two answers of List share memory")
	}
	clear(two[:cap(two)])
	sees(t, "rule 3: behind List's answer", x, want...)
	a, _ := x.Do(list("/"))
	b, _ := x.Do(list("/"))
	clear(a.Names[:cap(a.Names)])
	if !slices.Equal(b.Names, []string{"a/", "b", "o"}) {
		t.Error("rule 3: two answers of list share memory")
	}
	answers(t, x, list("/"), named("a/", "b", "o"))
	c := x.Clone()
	clear(c.List())
	inodes := c.Upper().Below(nil)
	clear(inodes)
	sees(t, "rule 3: behind a clone's answers", x, want...)
	has(t, "rule 3: behind a clone's answers", x, fileNode("/o", "1"))
}

// Rule 5: the same, asked anew, answers the same.
func TestAlike(t *testing.T) {
	for range 20 {
		x, y := made(t, branch(t), low), made(t, branch(t), low)
		for _, o := range all() {
			a, _ := x.Do(o)
			b, _ := y.Do(o)
			if !same(a, b) || !slices.Equal(x.List(), y.List()) || string(x.Upper().Encode()) != string(y.Upper().Encode()) {
				t.Fatalf("rule 5: %s: %s and %s", show(o), show(a), show(b))
			}
		}
	}
}
