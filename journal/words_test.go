package journal_test

import (
	"encoding/binary"
	"math/rand"

	"veneer/api"
	"veneer/journal"
)

// The chapter's words once more, without the layers below, for the tests to hold the journal against.

// mayBe: whether something may be kept.
func mayBe(k api.Kept) bool {
	const greatest = 1 << 40
	for _, n := range []int64{k.View, k.Normal, k.Base} {
		if n < 0 || n > greatest {
			return false
		}
	}
	if k.Normal > k.View || len(k.Entries) > 32 || k.Base+int64(len(k.Entries)) > greatest {
		return false
	}
	if len(k.State) > 65536 || k.Base == 0 && len(k.State) > 0 {
		return false
	}
	for _, e := range k.Entries {
		for _, s := range []string{e.Op.Path, e.Op.To, e.Op.Data} {
			if len(s) > 1100 {
				return false
			}
		}
	}
	return true
}

// deed is a call of a journal, what its record has in it, and what that makes of what is kept, right or not.
type deed struct {
	name    string
	do      func(j *journal.Journal) api.Errno
	payload string
	makes   func(k api.Kept) (api.Kept, bool)
	lays    bool
}

// after: what is kept behind a deed; false: its record doesn't fit.
func (d deed) after(k api.Kept) (api.Kept, bool) {
	next, ok := d.makes(own(k))
	if !ok || !mayBe(next) {
		return api.Kept{}, false
	}
	return next, true
}

// views: a call of View.
func views(view int64) deed {
	return deed{
		name:    "View",
		do:      func(j *journal.Journal) api.Errno { return j.View(view) },
		payload: whole(viewFields(uint64(view))),
		makes: func(k api.Kept) (api.Kept, bool) {
			higher := view > k.View
			k.View = view
			return k, higher
		},
	}
}

// adds: a call of Entry.
func adds(e api.Entry) deed {
	return deed{
		name:    "Entry",
		do:      func(j *journal.Journal) api.Errno { return j.Entry(e) },
		payload: whole(entryRecord(e)),
		makes: func(k api.Kept) (api.Kept, bool) {
			k.Entries = append(k.Entries, e)
			return k, true
		},
	}
}

// adopts: a call of Adopt.
func adopts(view, from int64, list []api.Entry) deed {
	return deed{
		name:    "Adopt",
		do:      func(j *journal.Journal) api.Errno { return j.Adopt(view, from, list) },
		payload: whole(adoptFields(uint64(view), uint64(from), list)),
		makes: func(k api.Kept) (api.Kept, bool) {
			last := k.Base + int64(len(k.Entries))
			if from < k.Base || from > last || view < k.View {
				return k, false
			}
			for k.Base+int64(len(k.Entries)) > from {
				k.Entries = k.Entries[:len(k.Entries)-1]
			}
			k.Entries = append(k.Entries, list...)
			k.View, k.Normal = view, view
			return k, true
		},
	}
}

// lays: a call of Lay.
func lays(all api.Kept) deed {
	return deed{
		name:    "Lay",
		do:      func(j *journal.Journal) api.Errno { return j.Lay(all) },
		payload: whole(allFields(all)),
		makes:   func(api.Kept) (api.Kept, bool) { return own(all), true },
		lays:    true,
	}
}

// letters reads fields; bad: something was wrong.
type letters struct {
	rest string
	bad  bool
}

// num: a number without a sign, in its shortest form.
func (l *letters) num() uint64 {
	n, size := binary.Uvarint([]byte(l.rest))
	if size <= 0 || num(n) != l.rest[:size] {
		l.bad, l.rest = true, ""
		return 0
	}
	l.rest = l.rest[size:]
	return n
}

// signed: a number with a sign.
func (l *letters) signed() int64 {
	n := l.num()
	return int64(n>>1) ^ -int64(n&1)
}

// text: a text of at most so many bytes.
func (l *letters) text(most uint64) string {
	n := l.num()
	if n > most || n > uint64(len(l.rest)) {
		l.bad, l.rest = true, ""
		return ""
	}
	s := l.rest[:n]
	l.rest = l.rest[n:]
	return s
}

// entry: an entry's fields.
func (l *letters) entry() api.Entry {
	e := api.Entry{Client: int(l.signed()), Number: l.signed()}
	in := &letters{rest: l.text(1 << 20)}
	e.Op.Kind = int(in.signed())
	e.Op.Path, e.Op.To, e.Op.Data = in.text(1100), in.text(1100), in.text(1100)
	e.Op.At, e.Op.Size = int(in.signed()), int(in.signed())
	l.bad = l.bad || in.bad || in.rest != ""
	return e
}

// list: how many entries, and these.
func (l *letters) list() []api.Entry {
	var list []api.Entry
	for n := l.num(); n > 0 && !l.bad; n-- {
		list = append(list, l.entry())
	}
	return list
}

// recalled: what payloads keep, one behind the other; false: one of them doesn't fit.
func recalled(payloads ...string) (api.Kept, bool) {
	k := api.Kept{}
	for _, payload := range payloads {
		in := &letters{rest: payload}
		var d deed
		switch in.num() {
		case 1:
			d = views(int64(in.num()))
		case 2:
			d = adds(in.entry())
		case 3:
			view, from := in.num(), in.num()
			d = adopts(int64(view), int64(from), in.list())
		case 4:
			d = lays(api.Kept{View: int64(in.num()), Normal: int64(in.num()), Base: int64(in.num()), State: in.text(1 << 20), Entries: in.list()})
		default:
			return api.Kept{}, false
		}
		next, ok := d.after(k)
		if in.bad || in.rest != "" || !ok {
			return api.Kept{}, false
		}
		k = next
	}
	return k, true
}

// pick: one of them.
func pick[T any](r *rand.Rand, list ...T) T { return list[r.Intn(len(list))] }
