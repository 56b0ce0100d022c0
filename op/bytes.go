package op

import (
	"veneer/api"
	"veneer/wire"
)

// areFields: whether each text is short enough for bytes to hold it.
func areFields(texts ...string) bool {
	for _, s := range texts {
		if len(s) > api.MaxField {
			return false
		}
	}
	return true
}

// Encode: an operation's bytes. ErrLong.
func Encode(o api.Op) ([]byte, api.Errno) {
	if !areFields(o.Path, o.To, o.Data) {
		return nil, api.ErrLong
	}
	out := &wire.Out{}
	out.Int(int64(o.Kind))
	out.Text(o.Path)
	out.Text(o.To)
	out.Text(o.Data)
	out.Int(int64(o.At))
	out.Int(int64(o.Size))
	return out.Bytes(), api.OK
}

// Decode: the operation that bytes mean. ErrForm.
func Decode(b []byte) (api.Op, api.Errno) {
	in := wire.Read(b)
	o := api.Op{
		Kind: int(in.Int()),
		Path: in.Text(api.MaxField),
		To:   in.Text(api.MaxField),
		Data: in.Text(api.MaxField),
		At:   int(in.Int()),
		Size: int(in.Int()),
	}
	if !in.End() {
		return api.Op{}, api.ErrForm
	}
	return o, api.OK
}

// Pack: a result's bytes. ErrLong, ErrMany.
func Pack(r api.Result) ([]byte, api.Errno) {
	if !areFields(r.Data) || !areFields(r.Names...) {
		return nil, api.ErrLong
	}
	if len(r.Names) > api.MaxNames {
		return nil, api.ErrMany
	}
	out := &wire.Out{}
	out.Int(int64(r.Code))
	out.Flag(r.Dir)
	out.Int(int64(r.Size))
	out.Text(r.Data)
	out.Num(uint64(len(r.Names)))
	for _, name := range r.Names {
		out.Text(name)
	}
	return out.Bytes(), api.OK
}

// Unpack: the result that bytes mean. ErrForm.
func Unpack(b []byte) (api.Result, api.Errno) {
	in := wire.Read(b)
	r := api.Result{
		Code: api.Errno(in.Int()),
		Dir:  in.Flag(),
		Size: int(in.Int()),
		Data: in.Text(api.MaxField),
	}
	count := in.Num()
	if count > api.MaxNames {
		return api.Result{}, api.ErrForm
	}
	for range count {
		r.Names = append(r.Names, in.Text(api.MaxField))
	}
	if !in.End() {
		return api.Result{}, api.ErrForm
	}
	return r, api.OK
}
