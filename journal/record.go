package journal

import (
	"slices"

	"veneer/api"
	"veneer/op"
	"veneer/wire"
)

// The kinds of a record.
const (
	kindView = 1 + iota
	kindEntry
	kindAdopt
	kindAll
)

// record is what a frame tells. Fields that its kind doesn't name are zero.
type record struct {
	kind int64
	from int64    // the number behind which the entries are others
	told api.Kept // of kindEntry it has one entry
}

// fold: what a record makes of what is kept; false: it doesn't fit.
func (r record) fold(k api.Kept) (api.Kept, bool) {
	makes := [...]func(k api.Kept) (api.Kept, bool){r.rise, r.add, r.adopt, r.replace} // in the order of their kinds
	next, right := makes[r.kind-kindView](k)
	if !right || Check(next) != api.OK {
		return api.Kept{}, false
	}
	return next, true
}

// rise: the view is a higher one; false: it isn't higher.
func (r record) rise(k api.Kept) (api.Kept, bool) {
	if r.told.View <= k.View {
		return api.Kept{}, false
	}
	k.View = r.told.View
	return k, true
}

// add: an entry comes behind the others.
func (r record) add(k api.Kept) (api.Kept, bool) {
	k.Entries = slices.Concat(k.Entries, r.told.Entries)
	return k, true
}

// adopt: the entries behind a number are others, and the view is normal; false: there is no such number, or the view is lower.
func (r record) adopt(k api.Kept) (api.Kept, bool) {
	if r.from < k.Base || r.from > k.Base+int64(len(k.Entries)) || r.told.View < k.View {
		return api.Kept{}, false
	}
	k.View, k.Normal = r.told.View, r.told.View
	k.Entries = slices.Concat(k.Entries[:r.from-k.Base], r.told.Entries)
	return k, true
}

// replace: all is what the record tells.
func (r record) replace(api.Kept) (api.Kept, bool) {
	k := r.told
	k.Entries = slices.Clone(k.Entries)
	return k, true
}

// frame: the frame of a record that fits.
func (r record) frame() []byte {
	frame, _ := wire.Frame(r.payload()) // what may be kept is shorter than a payload may be
	return frame
}

// payload: the fields of a record that fits.
func (r record) payload() []byte {
	out := &wire.Out{}
	out.Num(uint64(r.kind))
	switch r.kind {
	case kindView:
		out.Num(uint64(r.told.View))
	case kindEntry:
		putEntry(out, r.told.Entries[0])
	case kindAdopt:
		out.Num(uint64(r.told.View))
		out.Num(uint64(r.from))
		putEntries(out, r.told.Entries)
	case kindAll:
		out.Num(uint64(r.told.View))
		out.Num(uint64(r.told.Normal))
		out.Num(uint64(r.told.Base))
		out.Text(r.told.State)
		putEntries(out, r.told.Entries)
	}
	return out.Bytes()
}

// putEntries: how many entries there are, and their fields.
func putEntries(out *wire.Out, entries []api.Entry) {
	out.Num(uint64(len(entries)))
	for _, e := range entries {
		putEntry(out, e)
	}
}

// putEntry: an entry's fields.
func putEntry(out *wire.Out, e api.Entry) {
	b, _ := op.Encode(e.Op) // the record fits: Check has asked for these bytes
	out.Int(int64(e.Client))
	out.Int(e.Number)
	out.Text(string(b))
}

// read: the record of a payload. It throws ErrRecord, if there is none, or one that can't fit.
func read(payload []byte) record {
	in := wire.Read(payload)
	r := record{kind: number(in, kindAll)}
	switch r.kind {
	case kindView:
		r.told.View = number(in, api.Greatest)
	case kindEntry:
		r.told.Entries = []api.Entry{readEntry(in)}
	case kindAdopt:
		r.told.View = number(in, api.Greatest)
		r.from = number(in, api.Greatest)
		r.told.Entries = readEntries(in)
	case kindAll:
		r.told.View = number(in, api.Greatest)
		r.told.Normal = number(in, api.Greatest)
		r.told.Base = number(in, api.Greatest)
		r.told.State = in.Text(api.MaxState)
		r.told.Entries = readEntries(in)
	default:
		panic(api.ErrRecord)
	}
	if !in.End() {
		panic(api.ErrRecord)
	}
	return r
}

// number: a number. It throws ErrRecord, if that is above the most.
func number(in *wire.In, most uint64) int64 {
	n := in.Num()
	if n > most {
		panic(api.ErrRecord)
	}
	return int64(n)
}

// readEntries: entries behind their number. It throws ErrRecord.
func readEntries(in *wire.In) []api.Entry {
	var entries []api.Entry
	for range number(in, api.MaxEntries) {
		entries = append(entries, readEntry(in))
	}
	return entries
}

// readEntry: an entry. It throws ErrRecord, if its operation is none.
func readEntry(in *wire.In) api.Entry {
	e := api.Entry{Client: int(in.Int()), Number: in.Int()}
	o, wrong := op.Decode([]byte(in.Text(in.Left())))
	if wrong != api.OK {
		panic(api.ErrRecord)
	}
	e.Op = o
	return e
}
