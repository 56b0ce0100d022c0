package plain

import (
	"slices"
	"strings"

	"veneer/api"
	"veneer/vpath"
)

// deed: what an operation of a kind does.
func (f *FS) deed(kind int) func(o api.Op) api.Result {
	switch kind {
	case api.OpMkdir:
		return f.mkdir
	case api.OpCreate:
		return f.create
	case api.OpWrite:
		return f.write
	case api.OpTruncate:
		return f.truncate
	case api.OpUnlink:
		return f.unlink
	case api.OpRmdir:
		return f.rmdir
	case api.OpRename:
		return f.rename
	case api.OpRead:
		return f.read
	case api.OpList:
		return f.list
	case api.OpStat:
		return f.stat
	}
	return f.forget
}

// refuse: the result of an error.
func refuse(e api.Errno) api.Result { return api.Result{Code: e} }

func (f *FS) mkdir(o api.Op) api.Result { return f.add(namesOf(o.Path), true) }

func (f *FS) create(o api.Op) api.Result { return f.add(namesOf(o.Path), false) }

// add: something new, without data. ErrThere, ErrNone, ErrNotDir.
func (f *FS) add(names []string, dir bool) api.Result {
	if len(names) == 0 {
		return refuse(api.ErrThere)
	}
	if _, e := f.findDir(dirOf(names)); e != api.OK {
		return refuse(e)
	}
	if f.has(names) {
		return refuse(api.ErrThere)
	}
	f.put(names, dir, "")
	return api.Result{}
}

func (f *FS) write(o api.Op) api.Result {
	at, e := f.findFile(o.Path)
	if e != api.OK {
		return refuse(e)
	}
	old, end := at.file.Data, o.At+len(o.Data)
	switch {
	case o.At > len(old):
		return refuse(api.ErrRange)
	case end > api.MaxFile:
		return refuse(api.ErrBig)
	}
	data := old[:o.At] + o.Data + old[min(end, len(old)):]
	f.put(at.names, false, data)
	return api.Result{Size: len(data)}
}

func (f *FS) truncate(o api.Op) api.Result {
	at, e := f.findFile(o.Path)
	if e != api.OK {
		return refuse(e)
	}
	old := at.file.Data
	kept := old[:min(o.Size, len(old))]
	f.put(at.names, false, kept+strings.Repeat("\x00", o.Size-len(kept)))
	return api.Result{Size: o.Size}
}

func (f *FS) unlink(o api.Op) api.Result {
	at, e := f.findFile(o.Path)
	if e != api.OK {
		return refuse(e)
	}
	f.drop(at.names)
	return api.Result{}
}

func (f *FS) rmdir(o api.Op) api.Result {
	names := namesOf(o.Path)
	if len(names) == 0 {
		return refuse(api.ErrRoot)
	}
	if _, e := f.findDir(names); e != api.OK {
		return refuse(e)
	}
	if len(f.below(names)) > 0 {
		return refuse(api.ErrNotEmpty)
	}
	f.drop(names)
	return api.Result{}
}

func (f *FS) rename(o api.Op) api.Result {
	path, to := namesOf(o.Path), namesOf(o.To)
	if e := f.checkEnds(path, to); e != api.OK {
		return refuse(e)
	}
	if vpath.Compare(path, to) == 0 {
		return api.Result{}
	}
	if e := f.checkMove(path, to); e != api.OK {
		return refuse(e)
	}
	f.move(path, to)
	return api.Result{}
}

// checkEnds: whether there is something at a path, and a directory for where it is to go. ErrRoot, ErrNone, ErrNotDir.
func (f *FS) checkEnds(path, to []string) api.Errno {
	if len(path) == 0 || len(to) == 0 {
		return api.ErrRoot
	}
	if _, e := f.find(path); e != api.OK {
		return e
	}
	_, e := f.findDir(dirOf(to))
	return e
}

// checkMove: whether what is at a path may go to another one. ErrWithin, ErrIsDir, ErrNotDir, ErrNotEmpty, ErrDeep.
func (f *FS) checkMove(path, to []string) api.Errno {
	if vpath.Within(to, path) {
		return api.ErrWithin
	}
	if f.has(to) {
		if e := f.checkCover(f.get(path), f.get(to)); e != api.OK {
			return e
		}
	}
	for _, at := range f.below(path) {
		if len(at.names)-len(path)+len(to) > api.MaxDepth {
			return api.ErrDeep
		}
	}
	return api.OK
}

// checkCover: whether one may come in the place of another. ErrIsDir, ErrNotDir, ErrNotEmpty.
func (f *FS) checkCover(from, over spot) api.Errno {
	switch {
	case !from.file.Dir && over.file.Dir:
		return api.ErrIsDir
	case from.file.Dir && !over.file.Dir:
		return api.ErrNotDir
	case len(f.below(over.names)) > 0: // never of a file
		return api.ErrNotEmpty
	}
	return api.OK
}

// move: what is at a path, and below, is at another one, and below.
func (f *FS) move(path, to []string) {
	for _, at := range append(f.below(path), f.get(path)) {
		f.drop(at.names)
		f.put(slices.Concat(to, at.names[len(path):]), at.file.Dir, at.file.Data)
	}
}

func (f *FS) read(o api.Op) api.Result {
	at, e := f.findFile(o.Path)
	if e != api.OK {
		return refuse(e)
	}
	data := at.file.Data
	if o.At > len(data) {
		return refuse(api.ErrRange)
	}
	return api.Result{Data: data[o.At:min(o.At+o.Size, len(data))], Size: len(data)}
}

func (f *FS) list(o api.Op) api.Result {
	dir, e := f.findDir(namesOf(o.Path))
	if e != api.OK {
		return refuse(e)
	}
	kids := f.kids(dir.names)
	slices.SortFunc(kids, byPath) // ahead of the strokes, which would be held against names' own bytes
	r := api.Result{Dir: true, Size: len(kids)}
	for _, at := range kids {
		r.Names = append(r.Names, shown(at))
	}
	return r
}

// shown: the last name, of a directory with a stroke behind.
func shown(at spot) string {
	name := at.names[len(at.names)-1]
	if at.file.Dir {
		return name + "/"
	}
	return name
}

func (f *FS) stat(o api.Op) api.Result {
	at, e := f.find(namesOf(o.Path))
	if e != api.OK {
		return refuse(e)
	}
	if at.file.Dir {
		return api.Result{Dir: true, Size: len(f.kids(at.names))}
	}
	return api.Result{Size: len(at.file.Data)}
}

func (f *FS) forget(api.Op) api.Result { return api.Result{} }
