package upper_test

import (
	"maps"
	"math/rand"
	"slices"
	"strings"
	"testing"

	"veneer/api"
	"veneer/upper"
	"veneer/vpath"
)

// knot is an inode with those in its directory: a second upper branch, not by paths.
type knot struct {
	inode api.Inode
	kids  map[string]*knot
}

// seek: what is at a path; nil: nothing.
func (k *knot) seek(names []string) *knot {
	for _, name := range names {
		if k = k.kids[name]; k == nil {
			return nil
		}
	}
	return k
}

// inodes: those below, in the order of paths.
func (k *knot) inodes() []api.Inode {
	var out []api.Inode
	for _, name := range slices.Sorted(maps.Keys(k.kids)) {
		out = append(out, k.kids[name].inode)
		out = append(out, k.kids[name].inodes()...)
	}
	return out
}

// refusal: the error that the chapter names of an inode at a path; k is the root.
func (k *knot) refusal(i api.Inode) api.Errno {
	names, e := vpath.Parse(i.Path)
	switch {
	case e != api.OK:
		return e
	case len(names) == 0:
		return api.ErrRoot
	case i.Kind != api.InodeFile && i.Kind != api.InodeDir && i.Kind != api.InodeWhite:
		return api.ErrKind
	case i.Data != "" && i.Kind != api.InodeFile || i.Opaque && i.Kind != api.InodeDir:
		return api.ErrArg
	case len(i.Data) > 1024:
		return api.ErrBig
	}
	up, at := k.seek(names[:len(names)-1]), k.seek(names)
	switch {
	case up == nil:
		return api.ErrNone
	case len(names) > 1 && up.inode.Kind != api.InodeDir:
		return api.ErrNotDir
	case i.Kind != api.InodeDir && at != nil && len(at.kids) > 0:
		return api.ErrNotEmpty
	case at == nil && len(k.inodes()) == 1024:
		return api.ErrMany
	}
	return api.OK
}

// put: an inode, and what the chapter answers.
func (k *knot) put(i api.Inode) api.Errno {
	if e := k.refusal(i); e != api.OK {
		return e
	}
	names, _ := vpath.Parse(i.Path)
	i.Path = vpath.Show(names)
	if at := k.seek(names); at != nil {
		at.inode = i
		return api.OK
	}
	k.seek(names[:len(names)-1]).kids[names[len(names)-1]] = &knot{inode: i, kids: map[string]*knot{}}
	return api.OK
}

// drop: what is at a path goes, and how many inodes that is.
func (k *knot) drop(names []string) int {
	at := k.seek(names)
	switch {
	case at == nil:
		return 0
	case len(names) == 0:
		gone := len(k.inodes())
		clear(k.kids)
		return gone
	}
	delete(k.seek(names[:len(names)-1]).kids, names[len(names)-1])
	return 1 + len(at.inodes())
}

// drawnPath: a path of few names, or one of those that are there, or right below it; seldom one that is none.
func drawnPath(r *rand.Rand, there []api.Inode) string {
	if len(there) > 0 && r.Intn(3) > 0 {
		return pick(r, there...).Path + pick(r, "", "", "", "/a", "/b", "/a-", "/c/..", "/", "/a/b")
	}
	if r.Intn(20) == 0 {
		return pick(r, "/", "//", "/..", "", "x", "/a b", "/"+text(17), strings.Repeat("/a", 9), strings.Repeat("/", 257), "/a/../b/", "/./a")
	}
	var path string
	for range pick(r, 1, 1, 1, 2, 2, 3, 4) {
		path += "/" + pick(r, "a", "a", "b", "c", "a-", "b.")
	}
	return path
}

// drawnInode: mostly one whose fields may be so.
func drawnInode(r *rand.Rand, there []api.Inode) api.Inode {
	i := api.Inode{Path: drawnPath(r, there), Kind: pick(r, 1, 2, 2, 2, 3)}
	switch {
	case r.Intn(20) == 0:
		i.Kind = pick(r, noKinds()...)
		fallthrough
	case r.Intn(20) == 0:
		i.Data, i.Opaque = text(pick(r, 0, 1, 1024, 1025)), r.Intn(2) == 0
	case i.Kind == api.InodeDir:
		i.Opaque = r.Intn(3) == 0
	case i.Kind == api.InodeFile:
		i.Data = text(pick(r, 0, 1, 2, r.Intn(200), r.Intn(1025), 1024, 1025))
	}
	return i
}

// drawnNames: a path's, or seldom some that are none.
func drawnNames(r *rand.Rand, there []api.Inode) []string {
	if r.Intn(5) == 0 {
		return pick(r, noPaths()...)
	}
	names, _ := vpath.Parse(drawnPath(r, there)) // the root's of what is no path
	return names
}

// alike: the upper branch must be as the knots are, whatever it is asked.
func alike(t *testing.T, what string, u *upper.Upper, k *knot, nodes, bytes int) {
	t.Helper()
	want := k.inodes()
	has(t, what, u, want...)
	if got := string(u.Encode()); got != spell(uint64(nodes), uint64(bytes), want...) {
		t.Errorf("%s: its bytes: %.80x", what, got)
	}
	if u.Over() != (u.Count() > nodes || u.Size() > bytes) {
		t.Errorf("%s: Over is %v; %d inodes of %d, %d bytes of %d", what, u.Over(), u.Count(), nodes, u.Size(), bytes)
	}
}

// asked: Get and Below of names must be as the knots have it.
func asked(t *testing.T, u *upper.Upper, k *knot, names []string) {
	t.Helper()
	var want []api.Inode
	at := k.seek(names)
	if at != nil {
		want = at.inodes()
	}
	below(t, u, names, want...)
	if at == nil || len(names) == 0 {
		lacks(t, u, names)
	} else if got, there := u.Get(names); !there || got != at.inode {
		t.Errorf("P12.3: Get(%q): %s, %v; want %s", names, show(got), there, show(at.inode))
	}
}

// P12.2 to P12.6: drawn scripts, held against the second upper branch step by step; now and then the script goes on with what Decode makes of Encode, or with a clone.
func TestDrawnScripts(t *testing.T) {
	r := rand.New(rand.NewSource(121))
	met := map[api.Errno]int{}
	gone := 0
	for range 300 {
		nodes, bytes := r.Intn(129), pick(r, r.Intn(100), r.Intn(8193))
		u, k := madeOf(t, nodes, bytes), &knot{kids: map[string]*knot{}}
		for range 150 {
			there := k.inodes()
			switch r.Intn(12) {
			case 0:
				names := drawnNames(r, there)
				if len(names) == 0 && r.Intn(4) > 0 {
					continue
				}
				want := k.drop(names)
				gone += want
				drops(t, u, names, want, k.inodes()...)
			case 1:
				asked(t, u, k, drawnNames(r, there))
			case 2:
				u = means(t, "P12.6", string(u.Encode()), there...)
			case 3:
				old := u
				u = u.Clone()
				old.Drop(nil)
			default:
				i := drawnInode(r, there)
				want := k.put(i)
				met[want]++
				puts(t, u, i, want)
			}
			if t.Failed() {
				return
			}
			alike(t, "P12.6: a drawn script", u, k, nodes, bytes)
		}
	}
	for _, e := range []api.Errno{api.OK, api.ErrLong, api.ErrPath, api.ErrName, api.ErrDeep, api.ErrRoot, api.ErrKind, api.ErrArg, api.ErrBig, api.ErrNone, api.ErrNotDir, api.ErrNotEmpty} {
		if met[e] < 30 {
			t.Errorf("P12.2: only %d drawn inodes have the error %d", met[e], e)
		}
	}
	if gone < 1000 {
		t.Errorf("P12.3: only %d were dropped", gone)
	}
}

// P12.2: drawn inodes round MaxInodes.
func TestDrawnMany(t *testing.T) {
	r := rand.New(rand.NewSource(122))
	u, k := made(t, full()...), &knot{kids: map[string]*knot{}}
	for _, i := range full() {
		k.put(i)
	}
	met := map[api.Errno]int{}
	for range 1500 {
		there := k.inodes()
		if r.Intn(10) == 0 {
			names := drawnNames(r, there)
			if len(names) == 0 || names[0] == "d" {
				continue
			}
			if got, want := u.Drop(names), k.drop(names); got != want {
				t.Errorf("P12.3: Drop(%q): %d; want %d", names, got, want)
			}
			continue
		}
		i := drawnInode(r, there)
		i.Data = ""
		want := k.put(i)
		met[want]++
		if got := u.Put(i); got != want {
			t.Errorf("P12.2: Put(%s): %d; want %d", show(i), got, want)
		}
	}
	alike(t, "P12.2: round MaxInodes", u, k, 128, 8192)
	if met[api.ErrMany] < 100 || met[api.OK] < 100 {
		t.Errorf("P12.2: %d were too many, %d were put", met[api.ErrMany], met[api.OK])
	}
}

// Rule 5: what is answered hangs on what was given, not on an order in which a map is gone through, nor on the one in which inodes came.
func TestAlike(t *testing.T) {
	r := rand.New(rand.NewSource(123))
	for range 50 {
		u, left := made(t), several()
		for range api.MaxDepth { // each round takes at least those whose directories came in the rounds ahead
			r.Shuffle(len(left), func(i, k int) { left[i], left[k] = left[k], left[i] })
			left = slices.DeleteFunc(left, func(i api.Inode) bool { return u.Put(i) == api.OK })
		}
		has(t, "rule 5", u, several()...)
		if string(u.Encode()) != spell(128, 8192, several()...) {
			t.Errorf("rule 5: other bytes")
		}
	}
}
