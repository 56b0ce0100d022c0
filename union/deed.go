package union

import (
	"errors"

	"veneer/api"
	"veneer/fault"
	"veneer/vpath"
)

// follow: the upper branch becomes such as what an operation has made of what is seen. ErrFull.
func (u *Union) follow(o api.Op) error {
	deed := u.deed(o.Kind)
	if deed == nil {
		return nil
	}
	err := deed(o)
	if errors.Is(err, api.ErrMany) || u.upper.Over() { // what no upper branch can hold is more than any quota allows
		return fault.New("quota", o.Path, api.ErrFull)
	}
	return err
}

// deed: what an operation of a kind does to the upper branch; nil, if it does nothing.
func (u *Union) deed(kind int) func(o api.Op) error {
	switch kind {
	case api.OpMkdir, api.OpCreate, api.OpWrite, api.OpTruncate:
		return u.write
	case api.OpUnlink, api.OpRmdir:
		return u.remove
	case api.OpRename:
		return u.rename
	}
	return nil
}

// write: a path is new, or has other data.
func (u *Union) write(o api.Op) error { return u.bring(namesOf(o.Path)) }

// remove: a path is gone.
func (u *Union) remove(o api.Op) error { return u.cut(namesOf(o.Path)) }

// rename: what was at a path, and below, is at another one. What that one had goes first: on the way there may not be more inodes than ahead and behind.
func (u *Union) rename(o api.Op) error {
	path, to := namesOf(o.Path), namesOf(o.To)
	if vpath.Compare(path, to) == 0 {
		return nil
	}
	u.upper.Drop(to)
	if err := u.cut(path); err != nil {
		return err
	}
	if err := u.bring(to); err != nil {
		return err
	}
	return u.bringBelow(vpath.Show(to))
}

// lift: each path above one that has no inode gets a directory that isn't opaque.
func (u *Union) lift(names []string) error {
	for i := 1; i < len(names); i++ {
		if _, there := u.upper.Get(names[:i]); there {
			continue
		}
		if err := u.put(api.Inode{Path: vpath.Show(names[:i]), Kind: api.InodeDir}); err != nil {
			return err
		}
	}
	return nil
}

// cut: what the upper branch has at a path and below goes; what the layers show there is hidden.
func (u *Union) cut(names []string) error {
	u.upper.Drop(names)
	if !u.Shown(names) {
		return nil
	}
	if err := u.lift(names); err != nil {
		return err
	}
	return u.put(api.Inode{Path: vpath.Show(names), Kind: api.InodeWhite})
}

// bring: what is seen at a path is in the upper branch; a directory hides what the layers show there.
func (u *Union) bring(names []string) error {
	if err := u.lift(names); err != nil {
		return err
	}
	i := inodeOf(u.look(vpath.Show(names)))
	i.Opaque = i.Kind == api.InodeDir && u.Shown(names)
	return u.put(i)
}

// bringBelow: what is seen below a path is in the upper branch.
func (u *Union) bringBelow(path string) error {
	for _, file := range u.seen.List() { // in order: a directory comes ahead of what is in it
		if !isBelow(file.Path, path) {
			continue
		}
		if err := u.put(inodeOf(file)); err != nil {
			return err
		}
	}
	return nil
}

// look: what is seen at a path at which there is something.
func (u *Union) look(path string) api.File {
	r := u.seen.Do(api.Op{Kind: api.OpRead, Path: path, Size: api.MaxFile})
	return api.File{Path: path, Dir: r.Code == api.ErrIsDir, Data: r.Data}
}

// put: an inode is in the upper branch. upper.Put's errors.
func (u *Union) put(i api.Inode) error { return fault.New("put", i.Path, u.upper.Put(i)) }

// inodeOf: the inode that a path has, as a directory one that isn't opaque.
func inodeOf(file api.File) api.Inode {
	if file.Dir {
		return api.Inode{Path: file.Path, Kind: api.InodeDir}
	}
	return api.Inode{Path: file.Path, Kind: api.InodeFile, Data: file.Data}
}

// namesOf: the path of a text that op.Check took.
func namesOf(text string) []string {
	names, _ := vpath.Parse(text)
	return names
}
