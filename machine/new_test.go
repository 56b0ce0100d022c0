package machine_test

import (
	"math"
	"strconv"
	"testing"

	"veneer/api"
	"veneer/blob"
	"veneer/machine"
	"veneer/node"
	"veneer/session"
	"veneer/tree"
)

// low is a layer with a file in a directory, and one beside it.
var low = []api.File{dir("/a"), file("/a/f", "hi"), file("/b", "")}

// layers are lower layers of all kinds, with the error that union.New has of them.
type layers struct {
	what  string
	store *blob.Store
	roots []api.Digest
	want  api.Errno
}

// laid: the blob of a directory's node, in a store.
func laid(t *testing.T, s *blob.Store, items ...api.Item) api.Digest {
	t.Helper()
	b, e := node.Encode(api.Node{Kind: api.NodeDir, Items: items})
	if e != api.OK {
		t.Fatalf("node.Encode: %d", e)
	}
	d, e := s.Put(b)
	if e != api.OK {
		t.Fatalf("blob.Put: %d", e)
	}
	return d
}

// wide: so many paths, at most MaxItems in each directory.
func wide(count int) []api.File {
	var out []api.File
	for i := range count {
		top := "/" + strconv.Itoa(10+i/50)
		if i%50 == 0 {
			out = append(out, dir(top))
		} else {
			out = append(out, file(top+"/"+strconv.Itoa(10+i%50), strconv.Itoa(i)))
		}
	}
	return out
}

// allLayers: right ones, and wrong ones with each error, alone and where others apply, too.
func allLayers(t *testing.T) []layers {
	t.Helper()
	s, roots := stored(t, low, wide(api.MaxWalk+1), []api.File{file("/spoilt", "spoilt")})
	good, many, spoilt := roots[0], roots[1], roots[2]
	if e := s.Spoil(spoilt, 0, 1); e != api.OK {
		t.Fatal(e)
	}
	aFile, e := tree.Write(s, "hi")
	if e != api.OK {
		t.Fatal(e)
	}
	deep := laid(t, s)
	for range api.MaxDepth + 1 {
		deep = laid(t, s, api.Item{Name: "d", Kind: api.NodeDir, Sum: deep})
	}
	lack := api.Digest{1}
	noFile := laid(t, s, api.Item{Name: "x", Kind: api.NodeFile, Sum: lack})
	return []layers{
		{"none", s, nil, api.OK},
		{"an empty list", s, []api.Digest{}, api.OK},
		{"one", s, []api.Digest{good}, api.OK},
		{"MaxLayers", s, []api.Digest{good, good, good, good}, api.OK},
		{"MaxLayers and one", s, []api.Digest{good, good, good, good, good}, api.ErrMany},
		{"MaxLayers and one that aren't there", s, make([]api.Digest, api.MaxLayers+1), api.ErrMany},
		{"one that isn't there", s, []api.Digest{lack}, api.ErrLack},
		{"the zero digest", s, []api.Digest{{}}, api.ErrLack},
		{"the last isn't there", s, []api.Digest{good, good, good, lack}, api.ErrLack},
		{"one of which a file isn't there", s, []api.Digest{noFile}, api.ErrLack},
		{"a broken one", s, []api.Digest{spoilt}, api.ErrBroken},
		{"a file", s, []api.Digest{aFile}, api.ErrForm},
		{"one with too many paths", s, []api.Digest{many}, api.ErrMany},
		{"one that is too deep", s, []api.Digest{deep}, api.ErrDeep},
		{"a broken one, then one that isn't there", s, []api.Digest{good, spoilt, lack}, api.ErrBroken},
		{"one that isn't there, then a broken one", s, []api.Digest{lack, spoilt}, api.ErrLack},
		{"no store", nil, nil, api.ErrNil},
		{"no store for one", nil, []api.Digest{good}, api.ErrNil},
		{"no store, and too many", nil, make([]api.Digest, api.MaxLayers+1), api.ErrNil},
	}
}

// within: whether a number is from 0 to the most.
func within(n, most int) bool { return n >= 0 && n <= most }

// P15.1: New with quotas, rooms and layers of all kinds: the first error that applies, or a machine.
func TestNew(t *testing.T) {
	count := map[api.Errno]int{}
	for _, l := range allLayers(t) {
		for _, nodes := range []int{-1, 0, 1, 127, 128, 129, math.MinInt, math.MaxInt} {
			for _, bytes := range []int{-1, 0, 1, 8191, 8192, 8193, math.MinInt, math.MaxInt} {
				for _, room := range []int{-1, 0, 1, 8191, 8192, 8193, math.MinInt, math.MaxInt} {
					want := l.want
					if !within(nodes, 128) || !within(bytes, 8192) || !within(room, 8192) {
						want = api.ErrArg
					}
					m, e := machine.New(l.store, l.roots, nodes, bytes, room)
					count[e]++
					if e != want || (m != nil) != (want == api.OK) {
						t.Fatalf("P15.1: New of %s, %d, %d, %d: %v, %d; want %d", l.what, nodes, bytes, room, m != nil, e, want)
					}
					if want == api.OK {
						is(t, "new", m, 0, branchBytes(uint64(nodes), uint64(bytes)), tableBytes(uint64(room)))
					}
				}
			}
		}
	}
	for _, e := range []api.Errno{api.OK, api.ErrArg, api.ErrNil, api.ErrMany, api.ErrLack, api.ErrBroken, api.ErrForm, api.ErrDeep} {
		if count[e] < 4 {
			t.Errorf("P15.1: the error %d was met %d times", e, count[e])
		}
	}
}

// P15.1: a new machine: no request was applied, no client is known, and what is seen is what the layers show.
func TestNewSees(t *testing.T) {
	m := fresh(t, 9, 99, 99)
	sees(t, m)
	seated(t, m)
	m = fresh(t, 9, 99, 99, []api.File{dir("/a"), file("/a/g", "top")}, low)
	sees(t, m, dir("/a"), file("/a/f", "hi"), file("/a/g", "top"), file("/b", ""))
	seated(t, m)
	for client := 1; client <= api.MaxClients; client++ {
		known(t, m, client, 1, session.New, done)
	}
	if m.At() != 0 {
		t.Errorf("P15.1: At: %d", m.At())
	}
}

// P15.1: the quotas are those of the machine's upper branch, the room that of its table.
func TestNewQuotas(t *testing.T) {
	m := fresh(t, 1, 3, 10)
	applies(t, m, entry(1, 1, create("/f")), done)
	applies(t, m, entry(1, 2, create("/g")), code(api.ErrFull))
	applies(t, m, entry(1, 3, write("/f", 0, "1234")), code(api.ErrFull))
	applies(t, m, entry(1, 4, write("/f", 0, "123")), sized(3))
	sees(t, m, file("/f", "123"))
	applies(t, m, entry(2, 1, stat("/")), api.Result{Dir: true, Size: 1})
	seated(t, m, kept(1, 4, 4, packed(sized(3))), kept(2, 1, 5, packed(api.Result{Dir: true, Size: 1}))) // five bytes each
	applies(t, m, entry(3, 1, mkdir("/f")), code(api.ErrThere))
	seated(t, m, gone(1, 4, 4), kept(2, 1, 5, packed(api.Result{Dir: true, Size: 1})), kept(3, 1, 6, packed(code(api.ErrThere))))
}
