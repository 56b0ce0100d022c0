package upper

import (
	"bytes"

	"veneer/api"
	"veneer/wire"
)

// Encode: its bytes.
func (u *Upper) Encode() []byte {
	if u == nil {
		return nil
	}
	out := &wire.Out{}
	out.Num(uint64(u.nodes))
	out.Num(uint64(u.bytes))
	out.Num(uint64(len(u.spots)))
	for _, i := range u.Below(nil) {
		out.Text(i.Path)
		out.Num(uint64(i.Kind))
		out.Flag(i.Opaque)
		out.Text(i.Data)
	}
	return out.Bytes()
}

// Decode: the upper branch that bytes mean. ErrForm.
func Decode(b []byte) (*Upper, api.Errno) {
	u, e := read(wire.Read(b))
	if e != api.OK || !bytes.Equal(u.Encode(), b) { // other bytes may be read, too: in another order, a path twice or not clean
		return nil, api.ErrForm
	}
	return u, api.OK
}

// read: the upper branch of bytes in whatever form. New's and Put's errors.
func read(in *wire.In) (*Upper, api.Errno) {
	u, e := New(number(in, api.MaxNodes), number(in, api.MaxBytes))
	if e != api.OK {
		return nil, e
	}
	for range number(in, api.MaxInodes) {
		if e := u.Put(readInode(in)); e != api.OK {
			return nil, e
		}
	}
	return u, api.OK
}

// readInode: an inode, right or not. Behind the end of the bytes its path is none.
func readInode(in *wire.In) api.Inode {
	return api.Inode{
		Path:   in.Text(api.MaxText),
		Kind:   number(in, api.InodeWhite),
		Opaque: in.Flag(),
		Data:   in.Text(api.MaxFile),
	}
}

// number: a number. One that is above the most is told as the most and one: wrong all the same, and so many are soon gone through.
func number(in *wire.In, most int) int { return int(min(in.Num(), uint64(most)+1)) }
