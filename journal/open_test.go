package journal_test

import (
	"math"
	"math/rand"
	"slices"
	"strings"
	"testing"

	"veneer/api"
	"veneer/journal"
	"veneer/platter"
)

// recalls: what Open must answer of whole frames of these payloads alone: it changes nothing on the platter, and no change is counted.
func recalls(t *testing.T, what string, payloads ...string) {
	t.Helper()
	defer tellPayloads(t, payloads)
	want, fits := recalled(payloads...)
	p := filled(t, 0, frames(payloads...), "")
	if !fits {
		refused(t, what, p, api.ErrRecord)
		return
	}
	before := tell(p)
	opens(t, what, p, want)
	stands(t, what, p, before)
}

// tellPayloads: what a test was about that has failed.
func tellPayloads(t *testing.T, payloads []string) {
	if t.Failed() {
		t.Logf("payloads: %s", show(payloads))
	}
}

// noRecord: Open of these payloads' frames must be ErrRecord, by the chapter's words, too; whichever area is live.
func noRecord(t *testing.T, what string, payloads ...string) {
	t.Helper()
	defer tellPayloads(t, payloads)
	if _, fits := recalled(payloads...); fits {
		t.Errorf("%s: the chapter's words, once more: it fits", what)
	}
	for live := range 2 {
		refused(t, "P18.1: "+what, filled(t, live, frames(payloads...), "other bytes"), api.ErrRecord)
	}
}

// P18.1: of no platter, ErrNil alone.
func TestOpenNil(t *testing.T) {
	if j, k, e := journal.Open(nil); j != nil || !same(k, api.Kept{}) || e != api.ErrNil {
		t.Errorf("P18.1: Open(nil): %v, %s, %d", j != nil, show(k), e)
	}
}

// P18.1: ErrDown, whatever else there is; and ErrRecord ahead of what laying anew would answer.
func TestOpenErrorsInOrder(t *testing.T) {
	right, wrong, torn := frame(whole(viewFields(3))), frame("\x09"), "torn"
	for live := range 2 {
		for _, data := range []string{"", right, wrong, torn, right + torn, right + wrong, wrong + torn, right + wrong + torn} {
			p := filled(t, live, data, "other")
			p.Arm(1)
			mustBe(t, "Sync", p.Sync(live), api.ErrDown)
			refused(t, "P18.1: without power", p, api.ErrDown)
		}
		for _, data := range []string{wrong, wrong + torn, right + wrong + torn, right + wrong + right, wrong + wrong} {
			for calls := range 3 {
				p := filled(t, live, data, "other")
				p.Arm(calls)
				refused(t, "P18.1: a record that doesn't fit", p, api.ErrRecord)
				if armed(p) != calls {
					t.Errorf("P18.1: a record that doesn't fit: the power goes in the change %d; want %d", armed(p), calls)
				}
			}
		}
	}
}

// P18.1: of a platter with no bytes nothing is kept, and nothing is done there; whatever the other area has.
func TestOpenNoBytes(t *testing.T) {
	p := platter.New()
	opens(t, "P18.1: a new platter", p, api.Kept{})
	stands(t, "P18.1: a new platter", p, state{})
	for live := range 2 {
		for _, other := range []string{"", "x", frame(whole(viewFields(3))), frame("no record")} {
			p := filled(t, live, "", other)
			p.Arm(1)
			before := tell(p)
			opens(t, "P18.1: no bytes", p, api.Kept{})
			stands(t, "P18.1: no bytes", p, before)
			if armed(p) != 1 {
				t.Error("P18.1: no bytes: a change was made")
			}
		}
	}
}

// P18.1: records byte by byte, and what they make.
func TestOpenExamples(t *testing.T) {
	a := api.Entry{Client: 1, Number: 1, Op: mkdir("/a")}
	b := api.Entry{Client: -2, Number: 150, Op: api.Op{Kind: api.OpWrite, Path: "/b", At: 64, Data: "z"}}
	const (
		three    = "\x02\x00\x00\x00\x01\x03"
		aBytes   = "\x02\x02\x08\x02\x02/a\x00\x00\x00\x00"
		bBytes   = "\x03\xac\x02\x0a\x06\x02/b\x00\x01z\x80\x01\x00"
		greatest = "\x80\x80\x80\x80\x80\x20"
	)
	for _, r := range []struct {
		payloads []string
		want     api.Kept
	}{
		{nil, api.Kept{}},
		{[]string{"\x01\x03"}, api.Kept{View: 3}},
		{[]string{"\x01\x01", "\x01\x02", "\x01\xac\x02"}, api.Kept{View: 300}},
		{[]string{"\x01" + greatest}, api.Kept{View: api.Greatest}},
		{[]string{"\x02" + aBytes}, api.Kept{Entries: []api.Entry{a}}},
		{[]string{"\x02" + aBytes, "\x01\x03", "\x02" + bBytes}, api.Kept{View: 3, Entries: []api.Entry{a, b}}},
		{[]string{"\x03\x00\x00\x00"}, api.Kept{}},
		{[]string{"\x03\x05\x00\x00"}, api.Kept{View: 5, Normal: 5}},
		{[]string{"\x03\x05\x00\x02" + bBytes + aBytes}, api.Kept{View: 5, Normal: 5, Entries: []api.Entry{b, a}}},
		{[]string{"\x02" + aBytes, "\x02" + aBytes, "\x03\x05\x01\x01" + bBytes}, api.Kept{View: 5, Normal: 5, Entries: []api.Entry{a, b}}},
		{[]string{"\x02" + aBytes, "\x02" + aBytes, "\x03\x00\x02\x01" + bBytes}, api.Kept{Entries: []api.Entry{a, a, b}}},
		{[]string{"\x02" + aBytes, "\x02" + aBytes, "\x03\x01\x00\x00"}, api.Kept{View: 1, Normal: 1}},
		{[]string{"\x04\x00\x00\x00\x00\x00"}, api.Kept{}},
		{[]string{"\x04\x09\x08\x05\x01s\x00"}, api.Kept{View: 9, Normal: 8, Base: 5, State: "s"}},
		{[]string{"\x04\x09\x08\x05\x00\x01" + aBytes, "\x03\x09\x06\x01" + bBytes}, api.Kept{View: 9, Normal: 9, Base: 5, Entries: []api.Entry{a, b}}},
		{[]string{"\x04\x09\x08\x05\x02st\x02" + aBytes + bBytes, "\x03\x0a\x05\x01" + bBytes}, api.Kept{View: 10, Normal: 10, Base: 5, State: "st", Entries: []api.Entry{b}}},
		{[]string{"\x01\x03", "\x02" + aBytes, "\x04\x01\x00\x00\x00\x01" + bBytes}, api.Kept{View: 1, Entries: []api.Entry{b}}},
		{[]string{"\x04\x09\x08\x05\x01s\x00", "\x04\x00\x00\x00\x00\x00"}, api.Kept{}},
	} {
		if got, fits := recalled(r.payloads...); !fits || !same(got, r.want) {
			t.Errorf("the chapter's words, once more: %s: %s, %v; want %s", show(r.payloads), show(got), fits, show(r.want))
		}
		for live := range 2 {
			p := filled(t, live, frames(r.payloads...), "other")
			before := tell(p)
			opens(t, "P18.1: "+show(r.payloads), p, r.want)
			stands(t, "P18.1: "+show(r.payloads), p, before)
			opens(t, "P18.1: again: "+show(r.payloads), p, r.want)
		}
	}
	const crc = "\x53\x60\x18\x7c" // of the six bytes of View(3), by another program
	if got := frame("\x01\x03"); got[:6] != three || got[6:] != crc {
		t.Errorf("the frame of View(3): %x", got)
	}
}

// row is records that fit, and behind them one more, field by field.
type row struct {
	ahead []string
	last  []string
}

// rows: of each kind, on several others.
func rows() []row {
	a, b := entry(70), api.Entry{Client: -70, Number: 7, Op: api.Op{Kind: 7, Path: "/from", To: "/to", Data: "data", At: 5, Size: 6}}
	full := api.Kept{View: 9, Normal: 8, Base: 24, State: "state", Entries: []api.Entry{a, b, a}}
	ahead := [][]string{{}, {whole(allFields(full))}, {whole(viewFields(5)), whole(entryRecord(a))}}
	var list []row
	for i, payloads := range ahead {
		k, _ := recalled(payloads...)
		base := uint64(k.Base)
		last := base + uint64(len(k.Entries))
		list = append(list,
			row{payloads, viewFields(uint64(10 + i))},
			row{payloads, entryRecord(b)},
			row{payloads, adoptFields(9, base, nil)},
			row{payloads, adoptFields(9, last, []api.Entry{a})},
			row{payloads, adoptFields(10, base, []api.Entry{a, b, a})},
			row{payloads, allFields(api.Kept{})},
			row{payloads, allFields(full)},
		)
	}
	return list
}

// P18.1: a field too few, too many, one that is there twice, one cut off, anything behind: of each kind.
func TestOpenFields(t *testing.T) {
	for _, r := range rows() {
		right := whole(r.last)
		recalls(t, "P18.1: right", append(slices.Clone(r.ahead), right)...)
		if _, fits := recalled(append(slices.Clone(r.ahead), right)...); !fits {
			t.Fatalf("the chapter's words, once more: %s", show(right))
		}
		for cut := range right {
			noRecord(t, "cut off", append(slices.Clone(r.ahead), right[:cut])...)
		}
		for at := 1; at < len(r.last); at++ {
			noRecord(t, "a field too few", append(slices.Clone(r.ahead), whole(without(r.last, at)))...)
			noRecord(t, "a field twice", append(slices.Clone(r.ahead), whole(slices.Insert(slices.Clone(r.last), at, r.last[at])))...)
		}
		for _, more := range []string{"\x00", "\x01", "\x80", "\xff", "\x00\x00\x00", right} {
			noRecord(t, "more behind", append(slices.Clone(r.ahead), right+more)...)
		}
	}
}

// P18.1: numbers that aren't in their shortest form, or have more than 64 bits, and texts that aren't there, at each place.
func TestOpenOtherForms(t *testing.T) {
	for _, r := range rows() {
		for at, field := range r.last {
			if field[0] < 0x80 {
				for _, tail := range []string{"\x00", "\x80\x00", "\x80\x80\x80\x80\x80\x80\x80\x80\x00", "\x80\x80\x80\x80\x80\x80\x80\x80\x02", "\x80\x80\x80\x80\x80\x80\x80\x80\x80\x00"} {
					other := slices.Clone(r.last)
					other[at] = string([]byte{field[0] | 0x80}) + tail + field[1:]
					noRecord(t, "a number in another form", append(slices.Clone(r.ahead), whole(other))...)
				}
			}
			if len(field) > 1 && field[0] < 0x80 { // a text
				for _, length := range []uint64{uint64(len(field)) + 200, 1 << 17, 1 << 32, 1 << 63, 1<<64 - 1} {
					other := slices.Clone(r.last)
					other[at] = num(length) + field[1:]
					noRecord(t, "a text that isn't there", append(slices.Clone(r.ahead), whole(other))...)
				}
			}
		}
	}
}

// P18.1: kinds that there aren't, with the fields of each kind behind them.
func TestOpenUnknownKinds(t *testing.T) {
	for _, r := range rows() {
		for _, kind := range []uint64{0, 5, 6, 7, 127, 128, 255, 256, 257, 258, 259, 260, 1<<16 + 1, 1 << 32, 1<<32 + 1, 1<<32 + 4, 1 << 63, 1<<63 + 1, 1<<63 + 4, 1<<64 - 1, 1<<64 - 4} {
			other := slices.Clone(r.last)
			other[0] = num(kind)
			noRecord(t, "an unknown kind", append(slices.Clone(r.ahead), whole(other))...)
			noRecord(t, "an unknown kind alone", append(slices.Clone(r.ahead), num(kind))...)
		}
		noRecord(t, "no kind at all", append(slices.Clone(r.ahead), "")...)
		for kind := range 5 { // those that there are, with the fields of each other one
			other := slices.Clone(r.last)
			other[0] = num(uint64(kind))
			recalls(t, "P18.1: of another kind", append(slices.Clone(r.ahead), whole(other))...)
		}
	}
}

// P18.1: an entry's operation that op.Decode doesn't take.
func TestOpenOtherOps(t *testing.T) {
	right := opBytes(api.Op{Kind: 7, Path: "/from", To: "/to", Data: "data", At: 5, Size: 6})
	wrong := []string{"", "\x00", right + "\x00", right + right, "\x8e\x00" + right[1:], opBytes(api.Op{Kind: 1, Path: text(1101)}), opBytes(api.Op{To: text(1101)}), opBytes(api.Op{Data: text(1101)}), text(5000)}
	for cut := range right {
		wrong = append(wrong, right[:cut])
	}
	for _, o := range wrong {
		odd := "\x02\x0e" + put(o)
		fine := whole(entryFields(entry(1)))
		noRecord(t, "kind 2", "\x02"+odd)
		noRecord(t, "kind 2, behind another", "\x02"+fine, "\x02"+odd)
		noRecord(t, "kind 3", "\x03\x00\x00\x01"+odd)
		noRecord(t, "kind 3, the second", "\x03\x00\x00\x02"+fine+odd)
		noRecord(t, "kind 3, the first", "\x03\x00\x00\x02"+odd+fine)
		noRecord(t, "kind 4", "\x04\x00\x00\x00\x00\x01"+odd)
		noRecord(t, "kind 4, the second", "\x04\x00\x00\x00\x00\x02"+fine+odd)
	}
	for _, o := range odd() {
		recalls(t, "P18.1: an operation that op.Check refuses", whole(entryRecord(api.Entry{Client: math.MinInt, Number: math.MaxInt64, Op: o})))
	}
}

// P18.1: how many entries there are must be what is told.
func TestOpenCounts(t *testing.T) {
	for _, real := range []int{0, 1, 2, 31, 32} {
		body := whole(listFields(entries(1, real))[1:])
		for _, count := range []uint64{0, 1, 2, 3, 30, 31, 32, 33, 255, 256, 256 + 1, 1 << 20, 1 << 32, 1<<32 + 1, 1<<63 + 1, 1<<64 - 1} {
			for _, head := range []string{"\x03\x00\x00", "\x04\x00\x00\x00\x00"} {
				if count == uint64(real) {
					recalls(t, "P18.1: its own count", head+num(count)+body)
				} else {
					noRecord(t, "another count", head+num(count)+body)
				}
			}
		}
	}
}

// fullAt: what is kept with so many entries behind a base.
func fullAt(base int64, count int) api.Kept {
	return api.Kept{View: 5, Normal: 4, Base: base, Entries: entries(base+1, count)}
}

// P18.1: records that are of a form, but make what may not be kept, or don't go on from what is kept.
func TestOpenMayNotBeKept(t *testing.T) {
	at := whole(allFields(api.Kept{View: 5, Normal: 4, Base: 8, State: "s", Entries: entries(9, 3)}))
	full := whole(allFields(fullAt(8, 32)))
	last := whole(allFields(fullAt(api.Greatest-1, 1)))
	huge := []uint64{api.Greatest + 1, 2 * api.Greatest, 1 << 62, 1<<63 - 1, 1 << 63, 1<<63 + 6, 1<<64 - 1, 1<<64 - 6}
	for _, view := range append(huge, 0, 1, 4, 5) {
		noRecord(t, "View, not above", at, whole(viewFields(view)))
	}
	noRecord(t, "View 0 of nothing", whole(viewFields(0)))
	noRecord(t, "one entry more", full, whole(entryRecord(entry(41))))
	noRecord(t, "an entry behind Greatest", last, whole(entryRecord(entry(1))))
	for _, view := range append(huge, 0, 1, 4) {
		noRecord(t, "Adopt, below the view", at, whole(adoptFields(view, 8, nil)))
		noRecord(t, "Adopt, below the view", at, whole(adoptFields(view, 11, entries(12, 2))))
	}
	for _, from := range append(huge, 0, 1, 7, 12, 13, 256+8, 1<<32+9) {
		noRecord(t, "Adopt from a number that there isn't", at, whole(adoptFields(5, from, nil)))
		noRecord(t, "Adopt from a number that there isn't", at, whole(adoptFields(6, from, entries(9, 1))))
	}
	for kept := range 33 {
		noRecord(t, "Adopt of one too many", full, whole(adoptFields(6, uint64(8+kept), entries(1, 33-kept))))
		recalls(t, "P18.1: Adopt of as many as may be", full, whole(adoptFields(6, uint64(8+kept), entries(1, 32-kept))))
	}
	noRecord(t, "Adopt behind Greatest", last, whole(adoptFields(6, api.Greatest, entries(1, 1))))
	noRecord(t, "Adopt behind Greatest", last, whole(adoptFields(6, api.Greatest-1, entries(1, 2))))
	recalls(t, "P18.1: Adopt up to Greatest", last, whole(adoptFields(6, api.Greatest-1, entries(7, 1))))
	for _, n := range huge {
		all := api.Kept{State: "s", Entries: entries(1, 1)}
		noRecord(t, "all, the view", at, whole(allNums(all, n, 1, 1)))
		noRecord(t, "all, the normal one", at, whole(allNums(all, 9, n, 1)))
		noRecord(t, "all, both", at, whole(allNums(all, n, n, 1)))
		noRecord(t, "all, the base", at, whole(allNums(all, 9, 9, n)))
	}
	for _, k := range []api.Kept{
		{Normal: 1}, {View: 6, Normal: 7}, {State: "s"}, {View: 6, Normal: 6, State: "\x00"}, {Base: 1, State: text(api.MaxState + 1)}, {Entries: entries(1, 33)}, {Base: 9, Entries: entries(1, 33)},
		{Base: api.Greatest, Entries: entries(1, 1)}, {Base: api.Greatest - 31, Entries: entries(1, 32)},
	} {
		noRecord(t, "all", whole(allFields(k)))
		noRecord(t, "all, behind another", at, whole(allFields(k)))
	}
	for _, k := range []api.Kept{{}, {View: 1}, {Base: 1, State: text(api.MaxState)}, fullAt(0, 32), fullAt(api.Greatest-32, 32), {Base: api.Greatest}, greatKept()} {
		recalls(t, "P18.1: all", whole(allFields(k)))
		recalls(t, "P18.1: all, behind another", at, whole(allFields(k)))
	}
}

// P18.1: one that doesn't fit is ErrRecord, wherever it stands among others that do.
func TestOpenOneOfMany(t *testing.T) {
	var right []string
	for view := range uint64(12) {
		right = append(right, whole(viewFields(view+1)), whole(entryRecord(entry(int64(view)))))
	}
	recalls(t, "P18.1: many", right...)
	for at := range len(right) + 1 {
		for _, wrong := range []string{"", "\x00", "\x01", "\x01\x00", "\x02\x00\x00\x00", "\x03\x00\x00", "\x05\x01", text(100)} {
			noRecord(t, "one of many", slices.Insert(slices.Clone(right), at, wrong)...)
		}
	}
	for at := range right {
		if at%2 == 0 && at+2 < len(right) {
			swapped := slices.Clone(right)
			swapped[at], swapped[at+2] = swapped[at+2], swapped[at]
			noRecord(t, "views that don't rise", swapped...)
		}
	}
}

// P18.1: payloads of which one byte was changed: Open answers what the chapter's words say.
func TestOpenChanged(t *testing.T) {
	taken, not := 0, 0
	for _, r := range rows() {
		right := whole(r.last)
		for at := range right {
			for v := range 256 {
				other := right[:at] + string([]byte{byte(v)}) + right[at+1:]
				payloads := append(slices.Clone(r.ahead), other)
				if _, fits := recalled(payloads...); fits {
					taken++
				} else {
					not++
				}
				recalls(t, "P18.1: one byte changed", payloads...)
			}
		}
	}
	if taken < 1000 || not < 1000 {
		t.Errorf("P18.1: %d were taken, %d not", taken, not)
	}
}

// P18.1: all short payloads out of a few letters, and drawn longer ones.
func TestOpenShort(t *testing.T) {
	letters := "\x00\x01\x02\x03\x04\x80"
	taken := 0
	var try func(payload string)
	try = func(payload string) {
		if _, fits := recalled(payload); fits {
			taken++
		}
		recalls(t, "P18.1: short", payload)
		if len(payload) == 6 || t.Failed() {
			return
		}
		for i := range len(letters) {
			try(payload + letters[i:i+1])
		}
	}
	try("")
	// View of four numbers in each of five lengths; Adopt of no entries from 0, of view 0 or four numbers in each of three lengths; all of it with 15 pairs of views and five bases, without a state (of one byte it would have seven letters).
	if want := 4*5 + 1 + 4*3 + 15*5; taken != want {
		t.Errorf("P18.1: %d short payloads were taken; want %d", taken, want)
	}
	r := rand.New(rand.NewSource(181))
	for range 30000 {
		payload := pick(r, "\x01", "\x02\x02\x02", "\x02\x02\x02\x07", "\x03", "\x03\x05\x00\x01\x02\x02\x06", "\x04", "\x04\x02\x01\x01")
		for range r.Intn(12) {
			payload += string([]byte{pick(r, 0, 0, 0, 1, 1, 2, 3, 6, 0x7f, 0x80, 0xff, byte(r.Intn(256)))})
		}
		recalls(t, "P18.1: drawn", payload)
	}
}

// torn: bytes that are no whole frame, nor have one at their beginning.
func torn() []string {
	next := frame(whole(entryRecord(entry(7))))
	list := []string{next[:len(next)-1] + "\x00", "\x02\x00\x00\x00\x01\x03\x00\x00\x00\x00", "\x02\x00\x00\x00\x01\x03\x00\x00\x00\x00" + next, "\x01\x00\x04\x00" + text(1<<18+10), "\xff\xff\xff\xff" + text(20), "\x01\x00\x00\x00\x09\x00\x00\x00\x00"}
	for cut := 1; cut < len(next); cut++ {
		list = append(list, next[:cut])
	}
	for _, at := range []int{0, 4, len(next) - 1} {
		b := []byte(next)
		b[at] ^= 0x40
		list = append(list, string(b), string(b)+next)
	}
	return list
}

// keptByFrames: frames of several records, with what they keep.
func keptByFrames() map[string][]string {
	return map[string][]string{
		"none":    nil,
		"a view":  viewFieldsOnly(3),
		"entries": {whole(entryRecord(entry(1))), whole(entryRecord(entry(2)))},
		"adopted": {whole(entryRecord(entry(1))), whole(viewFields(2)), whole(adoptFields(4, 1, entries(5, 3)))},
		"all":     {whole(allFields(api.Kept{View: 9, Normal: 8, Base: 24, State: text(300), Entries: entries(25, 2)})), whole(entryRecord(entry(27)))},
	}
}

// viewFieldsOnly: a record of a view, as a list.
func viewFieldsOnly(view uint64) []string { return []string{whole(viewFields(view))} }

// P18.1: with more bytes than the whole frames, all is laid anew: one record in the other area, which is live; nothing in the one that was.
func TestOpenTorn(t *testing.T) {
	for name, payloads := range keptByFrames() {
		k, _ := recalled(payloads...)
		for live := range 2 {
			for _, other := range []string{"", "left over"} {
				for _, rest := range torn() {
					p := filled(t, live, frames(payloads...)+rest, other)
					opens(t, "P18.1: torn, behind "+name, p, k)
					want := lasting(1-live, frame(whole(allFields(k))))
					stands(t, "P18.1: torn, behind "+name, p, want)
					opens(t, "P18.1: torn, again", p, k)
					stands(t, "P18.1: torn, again", p, want)
				}
			}
		}
	}
}

// P18.1: as many bytes as may be kept, laid anew.
func TestOpenTornGreat(t *testing.T) {
	for live := range 2 {
		data := frame(whole(allFields(greatKept())))
		p := filled(t, live, data+"torn", "left over")
		opens(t, "P18.1: great", p, greatKept())
		stands(t, "P18.1: great", p, lasting(1-live, data))
	}
}

// P18.1: the journal that laid all anew goes on there.
func TestOpenTornGoesOn(t *testing.T) {
	p := filled(t, 0, frame(whole(viewFields(3)))+"torn", "")
	j := opens(t, "P18.1: torn", p, api.Kept{View: 3})
	mustBe(t, "P18.2: Entry", j.Entry(entry(1)), api.OK)
	data := frames(whole(allFields(api.Kept{View: 3})), whole(entryRecord(entry(1))))
	stands(t, "P18.2: Entry", p, lasting(1, data))
	opens(t, "P18.2: Entry", p, api.Kept{View: 3, Entries: entries(1, 1)})
}

// P18.1: where the power goes while all is laid anew, ErrDown alone; opened again, what was kept is there.
func TestOpenTornPower(t *testing.T) {
	for name, payloads := range keptByFrames() {
		k, _ := recalled(payloads...)
		for live := range 2 {
			for _, rest := range torn()[:20] {
				for calls := 1; calls <= 7; calls++ {
					p := filled(t, live, frames(payloads...)+rest, "left over")
					p.Arm(calls)
					if calls > 5 {
						opens(t, "P18.1: the power goes later", p, k)
						if armed(p) != calls-5 {
							t.Errorf("P18.1: %s: the power goes in the change %d; want %d", name, armed(p), calls-5)
						}
						continue
					}
					j, got, e := journal.Open(p)
					if j != nil || !same(got, api.Kept{}) || e != api.ErrDown {
						t.Errorf("P18.1: %s, the power goes in the change %d: %v, %s, %d", name, calls, j != nil, show(got), e)
					}
					stands(t, "P18.1: "+name, p, wayAnew(live, calls, frames(payloads...)+rest, "left over", frame(whole(allFields(k)))))
					p.Cut([][]int{nil, {3, 3}, {math.MaxInt, math.MaxInt}}[calls%3]...)
					opens(t, "P18.1: "+name+", again", p, k)
				}
			}
		}
	}
}

// wayAnew: what the platter tells, if the power went in that change of laying anew.
func wayAnew(live, calls int, old, other, frame string) state {
	s := lasting(live, old)
	s.down = true
	switch calls {
	case 1:
		s.parts[1-live] = part{other, 0}
	case 2, 3:
		s.parts[1-live] = part{frame, 0}
	case 4:
		s.parts[1-live] = part{frame, len(frame)}
	case 5:
		s.parts[1-live] = part{frame, len(frame)}
		s.live = 1 - live
	}
	return s
}

// P18.1: whole frames that weren't synced are told as others are, and nothing is done.
func TestOpenUnsynced(t *testing.T) {
	p := platter.New()
	p.Append(0, []byte(frames(whole(viewFields(3)), whole(entryRecord(entry(1))))))
	before := tell(p)
	opens(t, "P18.1: not synced", p, api.Kept{View: 3, Entries: entries(1, 1)})
	stands(t, "P18.1: not synced", p, before)
}

// Rule 6: whatever bytes there are, Open ends, and answers a journal or an error of its own.
func TestOpenAnyBytes(t *testing.T) {
	r := rand.New(rand.NewSource(182))
	met := map[api.Errno]int{}
	for range 3000 {
		var b strings.Builder
		for range r.Intn(6) {
			k := rows()[r.Intn(len(rows()))]
			payload := whole(append(slices.Clone(k.ahead), k.last...))
			b.WriteString(pick(r, frame(payload), frame(whole(k.last)), frame(whole(viewFields(uint64(r.Intn(9))))), frame(whole(entryRecord(entry(2)))), payload, text(r.Intn(30))))
		}
		p := filled(t, r.Intn(2), b.String(), text(r.Intn(9)))
		j, k, e := journal.Open(p)
		met[e]++
		if e != api.OK && e != api.ErrRecord || (j != nil) != (e == api.OK) || e != api.OK && !same(k, api.Kept{}) || e == api.OK && !mayBe(k) {
			t.Errorf("P18.1: %s: %v, %s, %d", show(b.String()), j != nil, show(k), e)
		}
	}
	if met[api.OK] < 200 || met[api.ErrRecord] < 200 {
		t.Errorf("P18.1: %v", met)
	}
}
