package plain

import (
	"veneer/api"
	"veneer/vpath"
)

// has: whether there is something at a path.
func (f *FS) has(names []string) bool {
	_, there := f.spots[vpath.Show(names)]
	return there
}

// get: what is at a path at which there is something.
func (f *FS) get(names []string) spot { return f.spots[vpath.Show(names)] }

// put: a directory, or a file with this data, is at a path.
func (f *FS) put(names []string, dir bool, data string) {
	text := vpath.Show(names)
	f.spots[text] = spot{names: names, file: api.File{Path: text, Dir: dir, Data: data}}
}

// drop: nothing is at a path.
func (f *FS) drop(names []string) { delete(f.spots, vpath.Show(names)) }

// find: what is at a path, looked up from the root on. ErrNone, ErrNotDir.
func (f *FS) find(names []string) (spot, api.Errno) {
	at := spot{file: api.File{Dir: true}} // the root itself is asked of no file
	for i := range len(names) + 1 {
		if !at.file.Dir {
			return spot{}, api.ErrNotDir
		}
		if !f.has(names[:i]) {
			return spot{}, api.ErrNone
		}
		at = f.get(names[:i])
	}
	return at, api.OK
}

// findFile: the file at a path's text. ErrNone, ErrNotDir, ErrIsDir.
func (f *FS) findFile(text string) (spot, api.Errno) {
	at, e := f.find(namesOf(text))
	if e == api.OK && at.file.Dir {
		return spot{}, api.ErrIsDir
	}
	return at, e
}

// findDir: the directory at a path. ErrNone, ErrNotDir.
func (f *FS) findDir(names []string) (spot, api.Errno) {
	at, e := f.find(names)
	if e == api.OK && !at.file.Dir {
		return spot{}, api.ErrNotDir
	}
	return at, e
}

// below: what lies below a path, in any order.
func (f *FS) below(names []string) []spot {
	var list []spot
	for _, at := range f.spots {
		if len(at.names) > len(names) && vpath.Within(at.names, names) {
			list = append(list, at)
		}
	}
	return list
}

// kids: what is in a directory, in any order.
func (f *FS) kids(names []string) []spot {
	var list []spot
	for _, at := range f.below(names) {
		if len(at.names) == len(names)+1 {
			list = append(list, at)
		}
	}
	return list
}

// namesOf: the path of a text that op.Check took.
func namesOf(text string) []string {
	names, _ := vpath.Parse(text)
	return names
}

// dirOf: the path of the directory of a path that isn't the root.
func dirOf(names []string) []string {
	dir, _, _ := vpath.Split(names)
	return dir
}

// byPath: which of two comes first.
func byPath(a, b spot) int { return vpath.Compare(a.names, b.names) }
