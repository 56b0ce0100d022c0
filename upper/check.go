package upper

import "veneer/api"

// checkForm: whether an inode's fields are such as its kind may have. ErrKind, ErrArg, ErrBig.
func checkForm(i api.Inode) api.Errno {
	if e := checkKind(i); e != api.OK {
		return e
	}
	if len(i.Data) > api.MaxFile {
		return api.ErrBig
	}
	return api.OK
}

// checkKind: whether there is such a kind, and no field that another one has. ErrKind, ErrArg.
func checkKind(i api.Inode) api.Errno {
	switch i.Kind {
	case api.InodeDir:
		if i.Data != "" {
			return api.ErrArg
		}
		i.Opaque = false // that may be; without it, a directory has no more than a file of no bytes
		fallthrough
	case api.InodeFile:
		i.Data = "" // without it, a file has no more than a whiteout
		fallthrough
	case api.InodeWhite:
		if i.Opaque || i.Data != "" {
			return api.ErrArg
		}
		return api.OK
	}
	return api.ErrKind
}

// checkPlace: whether an inode of a kind may be at a path below the root. ErrNone, ErrNotDir, ErrNotEmpty, ErrMany.
func (u *Upper) checkPlace(names []string, kind int) api.Errno {
	if e := u.checkDir(names[:len(names)-1]); e != api.OK {
		return e
	}
	_, there := u.Get(names)
	switch {
	case there && kind != api.InodeDir && len(u.below(names)) > 0: // nothing lies below where there is nothing
		return api.ErrNotEmpty
	case !there && len(u.spots) >= api.MaxInodes:
		return api.ErrMany
	}
	return api.OK
}

// checkDir: whether there is a directory at a path. ErrNone, ErrNotDir.
func (u *Upper) checkDir(names []string) api.Errno {
	if len(names) == 0 {
		return api.OK
	}
	dir, there := u.Get(names)
	switch {
	case !there:
		return api.ErrNone
	case dir.Kind != api.InodeDir:
		return api.ErrNotDir
	}
	return api.OK
}
