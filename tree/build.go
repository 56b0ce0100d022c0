package tree

import (
	"slices"

	"veneer/api"
	"veneer/blob"
	"veneer/node"
	"veneer/sha"
	"veneer/vpath"
)

// batch is blobs that are to be put together, or none of them.
type batch struct{ blobs [][]byte }

// Write: a file as blobs. ErrNil, ErrBig, ErrFull.
func Write(s *blob.Store, data string) (api.Digest, api.Errno) {
	if s == nil {
		return api.Digest{}, api.ErrNil
	}
	if len(data) > api.MaxFile {
		return api.Digest{}, api.ErrBig
	}
	var b batch
	sum := b.addFile(data)
	return b.put(s, sum)
}

// Build: a tree of paths. ErrNil, ErrLong, ErrPath, ErrName, ErrDeep, ErrArg, ErrBig, ErrThere, ErrNone, ErrNotDir, ErrMany, ErrFull.
func Build(s *blob.Store, list []api.File) (api.Digest, api.Errno) {
	if s == nil {
		return api.Digest{}, api.ErrNil
	}
	spots, e := parse(list)
	if e != api.OK {
		return api.Digest{}, e
	}
	if e := check(spots); e != api.OK {
		return api.Digest{}, e
	}
	slices.SortFunc(spots, byPath)
	var b batch
	root := b.addTree(spots)
	return b.put(s, root)
}

// parse: the paths of a list, each with its clean text. ErrLong, ErrPath, ErrName, ErrDeep.
func parse(list []api.File) ([]spot, api.Errno) {
	spots := make([]spot, len(list))
	for i, file := range list {
		names, e := vpath.Parse(file.Path)
		if e != api.OK {
			return nil, e
		}
		file.Path = vpath.Show(names)
		spots[i] = spot{names: names, file: file}
	}
	return spots, api.OK
}

// check: whether paths are those of a tree. ErrArg, ErrBig, ErrThere, ErrNone, ErrNotDir, ErrMany.
func check(spots []spot) api.Errno {
	kinds := map[string]int{"/": api.NodeDir} // by the paths' texts; the root is there untold
	counts := map[string]int{}                // by the directories' texts, how many names they have
	checks := []struct {
		e     api.Errno
		wrong func(at spot) bool
	}{
		{api.ErrArg, func(at spot) bool { return at.file.Dir && at.file.Data != "" }},
		{api.ErrBig, func(at spot) bool { return len(at.file.Data) > api.MaxFile }},
		{api.ErrThere, func(at spot) bool {
			there := kinds[at.file.Path] != 0
			kinds[at.file.Path] = kindOf(at.file) // for this check and for those behind it
			return there
		}},
		{api.ErrNone, func(at spot) bool { return kinds[dirOf(at)] == 0 }},
		{api.ErrNotDir, func(at spot) bool { return kinds[dirOf(at)] != api.NodeDir }},
		{api.ErrMany, func(at spot) bool {
			counts[dirOf(at)]++
			return counts[dirOf(at)] > api.MaxItems
		}},
	}
	for _, c := range checks {
		if slices.ContainsFunc(spots, c.wrong) {
			return c.e
		}
	}
	return api.OK
}

// kindOf: the kind of the node that a path has.
func kindOf(file api.File) int {
	if file.Dir {
		return api.NodeDir
	}
	return api.NodeFile
}

// dirOf: the text of a path's directory.
func dirOf(at spot) string {
	dir, _, _ := vpath.Split(at.names)
	return vpath.Show(dir)
}

// put: all blobs are in the store, and the digest of what was made of them is told. ErrFull.
func (b *batch) put(s *blob.Store, sum api.Digest) (api.Digest, api.Errno) {
	if e := s.PutAll(b.blobs); e != api.OK {
		return api.Digest{}, e
	}
	return sum, api.OK
}

// add: the blob of a node, which is right: its limits have been looked at.
func (b *batch) add(n api.Node) api.Digest {
	bytes, _ := node.Encode(n)
	b.blobs = append(b.blobs, bytes)
	return sha.Sum(bytes)
}

// addFile: the blobs of a file.
func (b *batch) addFile(data string) api.Digest {
	n := api.Node{Kind: api.NodeFile, Size: len(data)}
	for piece := range slices.Chunk([]byte(data), api.ChunkLen) {
		n.Parts = append(n.Parts, b.add(api.Node{Kind: api.NodeChunk, Data: string(piece)}))
	}
	return b.add(n)
}

// addTree: the blobs of a tree. Its paths are in order, so that those below one come right behind it.
func (b *batch) addTree(spots []spot) api.Digest {
	var addDir func(dir []string) api.Digest
	addDir = func(dir []string) api.Digest {
		n := api.Node{Kind: api.NodeDir}
		for len(spots) > 0 && vpath.Within(spots[0].names, dir) {
			at := spots[0]
			spots = spots[1:]
			item := api.Item{Name: at.names[len(dir)], Kind: kindOf(at.file)}
			if at.file.Dir {
				item.Sum = addDir(at.names)
			} else {
				item.Sum = b.addFile(at.file.Data)
			}
			n.Items = append(n.Items, item)
		}
		return b.add(n)
	}
	return addDir(nil)
}
