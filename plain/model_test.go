package plain_test

import (
	"maps"
	"math/rand"
	"slices"
	"testing"

	"veneer/api"
	"veneer/op"
	"veneer/plain"
	"veneer/vpath"
)

// knot is a directory with what is in it, or, without a map, a file with its data: a second file system, not by paths.
type knot struct {
	kids map[string]*knot
	data []byte
}

// folder: a directory's knot.
func folder() *knot { return &knot{kids: map[string]*knot{}} }

// modelled: the knots of paths that are in their order.
func modelled(files []api.File) *knot {
	root := folder()
	for _, at := range files {
		names, _ := vpath.Parse(at.Path)
		up, _ := root.seek(names[:len(names)-1])
		k := &knot{data: []byte(at.Data)}
		if at.Dir {
			k = folder()
		}
		up.kids[names[len(names)-1]] = k
	}
	return root
}

// seek: what is at a path.
func (k *knot) seek(names []string) (*knot, api.Errno) {
	for _, name := range names {
		if k.kids == nil {
			return nil, api.ErrNotDir
		}
		if k = k.kids[name]; k == nil {
			return nil, api.ErrNone
		}
	}
	return k, api.OK
}

// seekUp: the directory of a path below the root.
func (k *knot) seekUp(names []string) (*knot, api.Errno) {
	up, e := k.seek(names[:len(names)-1])
	if e == api.OK && up.kids == nil {
		return nil, api.ErrNotDir
	}
	return up, e
}

// height: how many names the longest path below has.
func (k *knot) height() int {
	most := 0
	for _, below := range k.kids {
		most = max(most, 1+below.height())
	}
	return most
}

// files: all paths below, in their order.
func (k *knot) files(path []string) []api.File {
	var out []api.File
	for _, name := range slices.Sorted(maps.Keys(k.kids)) {
		below := k.kids[name]
		names := slices.Concat(path, []string{name})
		out = append(out, api.File{Path: vpath.Show(names), Dir: below.kids != nil, Data: string(below.data)})
		out = append(out, below.files(names)...)
	}
	return out
}

// do: what the chapter says of an operation.
func (k *knot) do(o api.Op) api.Result {
	if e := op.Check(o); e != api.OK {
		return api.Result{Code: e}
	}
	names, _ := vpath.Parse(o.Path)
	switch o.Kind {
	case api.OpForget:
		return api.Result{}
	case api.OpMkdir, api.OpCreate:
		return k.doMake(o.Kind, names)
	case api.OpRmdir, api.OpUnlink:
		return k.doGo(o.Kind, names)
	case api.OpRename:
		to, _ := vpath.Parse(o.To)
		return k.doRename(names, to)
	case api.OpList, api.OpStat:
		return k.doTell(o.Kind, names)
	}
	return k.doData(o, names)
}

func (k *knot) doMake(kind int, names []string) api.Result {
	if len(names) == 0 {
		return api.Result{Code: api.ErrThere}
	}
	up, e := k.seekUp(names)
	if e != api.OK {
		return api.Result{Code: e}
	}
	last := names[len(names)-1]
	if up.kids[last] != nil {
		return api.Result{Code: api.ErrThere}
	}
	up.kids[last] = &knot{}
	if kind == api.OpMkdir {
		up.kids[last] = folder()
	}
	return api.Result{}
}

func (k *knot) doGo(kind int, names []string) api.Result {
	if kind == api.OpRmdir && len(names) == 0 {
		return api.Result{Code: api.ErrRoot}
	}
	at, e := k.seek(names)
	switch {
	case e != api.OK:
		return api.Result{Code: e}
	case kind == api.OpUnlink && at.kids != nil:
		return api.Result{Code: api.ErrIsDir}
	case kind == api.OpRmdir && at.kids == nil:
		return api.Result{Code: api.ErrNotDir}
	case kind == api.OpRmdir && len(at.kids) > 0:
		return api.Result{Code: api.ErrNotEmpty}
	}
	up, _ := k.seekUp(names)
	delete(up.kids, names[len(names)-1])
	return api.Result{}
}

func (k *knot) doRename(path, to []string) api.Result {
	if len(path) == 0 || len(to) == 0 {
		return api.Result{Code: api.ErrRoot}
	}
	at, e := k.seek(path)
	if e != api.OK {
		return api.Result{Code: e}
	}
	up, e := k.seekUp(to)
	if e != api.OK {
		return api.Result{Code: e}
	}
	last := to[len(to)-1]
	over := up.kids[last]
	switch {
	case slices.Equal(path, to):
		return api.Result{}
	case len(to) > len(path) && slices.Equal(path, to[:len(path)]):
		return api.Result{Code: api.ErrWithin}
	case over != nil && at.kids == nil && over.kids != nil:
		return api.Result{Code: api.ErrIsDir}
	case over != nil && at.kids != nil && over.kids == nil:
		return api.Result{Code: api.ErrNotDir}
	case over != nil && len(over.kids) > 0:
		return api.Result{Code: api.ErrNotEmpty}
	case len(to)+at.height() > 8:
		return api.Result{Code: api.ErrDeep}
	}
	from, _ := k.seekUp(path)
	delete(from.kids, path[len(path)-1])
	up.kids[last] = at
	return api.Result{}
}

func (k *knot) doTell(kind int, names []string) api.Result {
	at, e := k.seek(names)
	switch {
	case e != api.OK:
		return api.Result{Code: e}
	case kind == api.OpStat && at.kids == nil:
		return api.Result{Size: len(at.data)}
	case kind == api.OpStat:
		return api.Result{Dir: true, Size: len(at.kids)}
	case at.kids == nil:
		return api.Result{Code: api.ErrNotDir}
	}
	r := api.Result{Dir: true, Size: len(at.kids)}
	for _, name := range slices.Sorted(maps.Keys(at.kids)) {
		if at.kids[name].kids != nil {
			name += "/"
		}
		r.Names = append(r.Names, name)
	}
	return r
}

func (k *knot) doData(o api.Op, names []string) api.Result {
	at, e := k.seek(names)
	switch {
	case e != api.OK:
		return api.Result{Code: e}
	case at.kids != nil:
		return api.Result{Code: api.ErrIsDir}
	case o.Kind == api.OpTruncate:
		grown := append(at.data, make([]byte, 1024)...)
		at.data = slices.Clone(grown[:o.Size])
		return api.Result{Size: o.Size}
	case o.At > len(at.data):
		return api.Result{Code: api.ErrRange}
	case o.Kind == api.OpRead:
		var got []byte
		for i := o.At; i < len(at.data) && i < o.At+o.Size; i++ {
			got = append(got, at.data[i])
		}
		return api.Result{Data: string(got), Size: len(at.data)}
	case o.At+len(o.Data) > 1024:
		return api.Result{Code: api.ErrBig}
	}
	for i := range len(o.Data) {
		if o.At+i == len(at.data) {
			at.data = append(at.data, 0)
		}
		at.data[o.At+i] = o.Data[i]
	}
	return api.Result{Size: len(at.data)}
}

// P11.2: each kind of operation at each of many paths, at and to which there is something, nothing, what can't be; held against the second file system.
func TestEachKindEverywhere(t *testing.T) {
	paths := []string{"/", "/n", "/n/m", "/f/x", "/f/x/y", "/a/n", "/a/b/n", "/e/n", "/e/n/m", "/d/d/d/d/d/n", "/d/d/d/d/d/d/n", "/d/d/d/d/d/d/d/n", "/d/d/d/d/d/d/d/e/..", "//a/./a/", "/e/../f", "/d/d/d/d/d/d/d/e/x", "bad", ""}
	for _, at := range several() {
		paths = append(paths, at.Path)
	}
	var all []api.Op
	for _, path := range paths {
		all = append(all, mkdir(path), create(path), unlink(path), rmdir(path), list(path), stat(path))
		for _, to := range paths {
			all = append(all, rename(path, to))
		}
		for _, n := range []int{-1, 0, 1, 2, 4, 5, 6, 1023, 1024, 1025} {
			all = append(all, truncate(path, n), read(path, n, 3), read(path, 1, n), write(path, n, ""), write(path, n, "x"), write(path, n, text(1018)), write(path, n, text(1024)))
		}
	}
	f := made(t, several()...)
	for _, o := range all {
		model := modelled(several())
		c := f.Clone()
		answers(t, c, o, model.do(o))
		has(t, "P11.2: behind "+show(o), c, model.files(nil)...)
	}
	has(t, "P11.3: what was cloned", f, several()...)
}

// drawnPath: a path of few names, mostly short, or one of those that are there, or right below it.
func drawnPath(r *rand.Rand, there []api.File) string {
	if len(there) > 0 && r.Intn(3) == 0 {
		return pick(r, there...).Path + pick(r, "", "", "/a")
	}
	if r.Intn(40) == 0 {
		return pick(r, "/", "//", "/..", "", "x", "/a b", "/"+text(17), "/a/a/a/a/a/a/a/a/a")
	}
	var path string
	for range pick(r, 1, 1, 1, 2, 2, 2, 3, 3, 4, 5, 6, 7, 8) {
		path += "/" + pick(r, "a", "a", "b", "c", "a-", "b.")
	}
	return path
}

// drawnOp: an operation, mostly one that op.Check takes.
func drawnOp(r *rand.Rand, there []api.File) api.Op {
	number := func() int { return pick(r, 0, 0, 0, 1, 2, r.Intn(8), r.Intn(1025), 1024, 1025, -1) }
	path := drawnPath(r, there)
	switch r.Intn(14) {
	case 0, 1:
		return mkdir(path)
	case 2:
		return create(path)
	case 3, 4:
		return write(path, number(), text(pick(r, 0, 1, 3, 7, r.Intn(1025), 1025)))
	case 5:
		return truncate(path, number())
	case 6:
		return unlink(path)
	case 7:
		return rmdir(path)
	case 8, 9, 10:
		return rename(path, drawnPath(r, there))
	case 11:
		return read(path, number(), number())
	case 12:
		return pick(r, list(path), stat(path))
	}
	return pick(r, forget(r.Intn(10)), api.Op{Kind: r.Intn(14) - 1, Path: path})
}

// probes: what is asked of a file system that List doesn't tell.
func probes(files []api.File) []api.Op {
	all := []api.Op{list("/"), stat("/")}
	for _, at := range files {
		all = append(all, list(at.Path), stat(at.Path), read(at.Path, 0, 1024), stat(at.Path+"/a"))
	}
	return all
}

// P11.2: drawn scripts, held against the second file system operation by operation.
func TestDrawnScripts(t *testing.T) {
	r := rand.New(rand.NewSource(113))
	met := map[[2]int]int{}
	for range 300 {
		f, model := made(t), folder()
		if r.Intn(3) == 0 {
			f, model = made(t, several()...), modelled(several())
		}
		for range 150 {
			o := drawnOp(r, model.files(nil))
			want := model.do(o)
			met[[2]int{o.Kind, int(want.Code)}]++
			answers(t, f, o, want)
			has(t, "P11.2: behind "+show(o), f, model.files(nil)...)
			if t.Failed() {
				return
			}
		}
		for _, o := range probes(model.files(nil)) {
			if op.Check(o) == api.OK {
				answers(t, f, o, model.do(o))
			}
		}
	}
	for _, k := range [][2]int{
		{1, 0}, {1, 4}, {1, 5}, {1, 70}, {2, 0}, {2, 4}, {2, 5}, {2, 70}, {3, 0}, {3, 4}, {3, 70}, {3, 71}, {3, 133}, {3, 134}, {4, 0}, {4, 4}, {4, 70}, {4, 71}, {5, 0}, {5, 4}, {5, 70}, {5, 71},
		{6, 0}, {6, 4}, {6, 70}, {6, 130}, {6, 132}, {7, 0}, {7, 4}, {7, 42}, {7, 70}, {7, 71}, {7, 130}, {7, 131}, {7, 132}, {8, 0}, {8, 4}, {8, 70}, {8, 71}, {8, 133}, {9, 0}, {9, 4}, {9, 70}, {10, 0}, {10, 4}, {10, 70}, {11, 0}, {11, 1},
	} {
		if met[k] < 3 {
			t.Errorf("P11.2: only %d drawn operations of kind %d have the error %d", met[k], k[0], k[1])
		}
	}
}

// seen: all that a file system answers of what it has.
func seen(f *plain.FS) []api.Result {
	var out []api.Result
	for _, o := range probes(f.List()) {
		out = append(out, f.Do(o))
	}
	return out
}

// P11.4: what only reads and what is refused changes nothing.
func TestNothingChanges(t *testing.T) {
	r := rand.New(rand.NewSource(114))
	reads, refused := 0, 0
	for range 60 {
		f := made(t, several()...)
		for range 60 {
			before, told := f.List(), seen(f)
			o := drawnOp(r, before)
			got := f.Do(o)
			if got.Code == api.OK && !op.Reads(o.Kind) {
				continue
			}
			reads++
			if got.Code != api.OK {
				refused++
				if !same(got, api.Result{Code: got.Code}) {
					t.Errorf("rule 2: %s: beside the error: %s", show(o), show(got))
				}
			}
			has(t, "P11.4: behind "+show(o), f, before...)
			if !slices.EqualFunc(seen(f), told, same) {
				t.Errorf("P11.4: behind %s something else is answered", show(o))
			}
		}
	}
	if refused < 500 || reads-refused < 50 {
		t.Errorf("P11.4: only %d were refused, %d read", refused, reads-refused)
	}
}

// P11.4: renamed there and back, where nothing was at To, all is as it was.
func TestThereAndBack(t *testing.T) {
	r := rand.New(rand.NewSource(115))
	moved := 0
	for range 60 {
		f := made(t, several()...)
		for range 60 {
			f.Do(drawnOp(r, f.List()))
			before, told := f.List(), seen(f)
			if len(before) == 0 {
				continue
			}
			path, to := pick(r, before...).Path, drawnPath(r, before)
			if f.Do(stat(to)).Code != api.ErrNone {
				continue
			}
			if there := f.Do(rename(path, to)); there.Code != api.OK {
				has(t, "P11.4: a rename that is refused", f, before...)
				continue
			}
			moved++
			refuses(t, f, stat(path), api.ErrNone)
			answers(t, f, rename(to, path), api.Result{})
			has(t, "P11.4: there and back", f, before...)
			if !slices.EqualFunc(seen(f), told, same) {
				t.Errorf("P11.4: %s to %s and back: something else is answered", path, to)
			}
		}
	}
	if moved < 300 {
		t.Errorf("P11.4: only %d were renamed", moved)
	}
}

// Rule 5: what is answered hangs on what was given, not on an order in which a map is gone through.
func TestAlike(t *testing.T) {
	r := rand.New(rand.NewSource(116))
	var script []api.Op
	for range 200 {
		script = append(script, drawnOp(r, several()))
	}
	first := made(t, several()...)
	var want []api.Result
	for _, o := range script {
		want = append(want, first.Do(o))
	}
	for range 20 {
		f := made(t, shuffled(r, several())...)
		for i, o := range script {
			answers(t, f, o, want[i])
		}
		has(t, "rule 5", f, first.List()...)
	}
}
