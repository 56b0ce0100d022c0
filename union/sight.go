package union

import (
	"maps"
	"slices"
	"strings"

	"veneer/api"
	"veneer/upper"
)

// sight is what is seen: paths with what is there, by their clean texts. The root is none of them.
type sight map[string]api.File

// seenOf: what is seen of layers, the topmost first.
func seenOf(layers [][]api.File) sight {
	s := sight{}
	for _, layer := range slices.Backward(layers) {
		for _, file := range layer {
			s.lay(file)
		}
	}
	return s
}

// under: what is seen with an upper branch over it, in any order.
func (s sight) under(u *upper.Upper) []api.File {
	all := maps.Clone(s)
	for _, i := range u.Below(nil) {
		all.layInode(i)
	}
	return slices.Collect(maps.Values(all))
}

// lay: a file covers what is seen at its path and below, a directory a file alone.
func (s sight) lay(file api.File) {
	if file.Dir && s[file.Path].Dir {
		return
	}
	s.cover(file.Path)
	s[file.Path] = file
}

// layInode: an inode of the upper branch comes over what is seen.
func (s sight) layInode(i api.Inode) {
	if i.Opaque || i.Kind == api.InodeWhite {
		s.cover(i.Path)
	}
	if i.Kind != api.InodeWhite {
		s.lay(api.File{Path: i.Path, Dir: i.Kind == api.InodeDir, Data: i.Data})
	}
}

// cover: nothing is seen at a path and below.
func (s sight) cover(path string) {
	if s[path].Dir { // nothing lies below anything else
		maps.DeleteFunc(s, func(text string, _ api.File) bool { return isBelow(text, path) })
	}
	delete(s, path)
}

// isBelow: whether a path lies below another one that isn't the root, both by their clean texts.
func isBelow(text, path string) bool { return strings.HasPrefix(text, path+"/") }
