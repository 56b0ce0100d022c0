package journal_test

import (
	"encoding/binary"
	"fmt"
	"hash/crc32"
	"slices"
	"strings"
	"testing"

	"veneer/api"
	"veneer/journal"
	"veneer/platter"
)

// text: so many bytes, no ten of them alike.
func text(count int) string { return strings.Repeat("0123456789", count/10+1)[:count] }

// show: the beginning of a value's text.
func show(v any) string { return fmt.Sprintf("%.200q", fmt.Sprintf("%+v", v)) }

// Operations and entries of all shapes.
func mkdir(path string) api.Op { return api.Op{Kind: api.OpMkdir, Path: path} }
func entry(n int64) api.Entry {
	return api.Entry{Client: 1, Number: n, Op: api.Op{Kind: api.OpWrite, Path: "/a", At: int(n), Data: "x"}}
}

// entries: so many, with numbers from one on.
func entries(from int64, count int) []api.Entry {
	var list []api.Entry
	for i := range count {
		list = append(list, entry(from+int64(i)))
	}
	return list
}

// same: whether two are one; entries that are nil are as a list without elements.
func same(a, b api.Kept) bool {
	return a.View == b.View && a.Normal == b.Normal && a.Base == b.Base && a.State == b.State && slices.Equal(a.Entries, b.Entries)
}

// own: the same with entries of its own.
func own(k api.Kept) api.Kept {
	k.Entries = slices.Clone(k.Entries)
	return k
}

// Fields' bytes, not by layer 2.
func num(n uint64) string   { return string(binary.AppendUvarint(nil, n)) }
func signed(n int64) string { return string(binary.AppendVarint(nil, n)) }
func put(s string) string   { return num(uint64(len(s))) + s }

// opBytes: an operation's bytes, not by layer 10.
func opBytes(o api.Op) string {
	return signed(int64(o.Kind)) + put(o.Path) + put(o.To) + put(o.Data) + signed(int64(o.At)) + signed(int64(o.Size))
}

// entryFields: an entry's fields, one by one.
func entryFields(e api.Entry) []string {
	return []string{signed(int64(e.Client)), signed(e.Number), put(opBytes(e.Op))}
}

// listFields: those of a list of entries.
func listFields(list []api.Entry) []string {
	fields := []string{num(uint64(len(list)))}
	for _, e := range list {
		fields = append(fields, entryFields(e)...)
	}
	return fields
}

// The fields of the records of each kind.
func viewFields(view uint64) []string  { return []string{"\x01", num(view)} }
func entryRecord(e api.Entry) []string { return append([]string{"\x02"}, entryFields(e)...) }
func allFields(k api.Kept) []string {
	return allNums(k, uint64(k.View), uint64(k.Normal), uint64(k.Base))
}
func whole(fields []string) string        { return strings.Join(fields, "") }
func without(s []string, at int) []string { return slices.Delete(slices.Clone(s), at, at+1) }
func adoptFields(view, from uint64, list []api.Entry) []string {
	return append([]string{"\x03", num(view), num(from)}, listFields(list)...)
}
func allNums(k api.Kept, view, normal, base uint64) []string {
	return append([]string{"\x04", num(view), num(normal), num(base), put(k.State)}, listFields(k.Entries)...)
}

// frame: a frame, not by layer 2.
func frame(payload string) string {
	b := binary.LittleEndian.AppendUint32(nil, uint32(len(payload)))
	b = append(b, payload...)
	return string(binary.LittleEndian.AppendUint32(b, crc32.ChecksumIEEE(b)))
}

// frames: those of payloads, one behind the other.
func frames(payloads ...string) string {
	var b strings.Builder
	for _, payload := range payloads {
		b.WriteString(frame(payload))
	}
	return b.String()
}

// part is an area's bytes, and how many of them are synced; state is all that a platter tells.
type part struct {
	data   string
	synced int
}
type state struct {
	live  int
	down  bool
	parts [2]part
}

// tell: what a platter tells.
func tell(p *platter.Platter) state {
	s := state{live: p.Live(), down: p.Down()}
	for i := range s.parts {
		s.parts[i] = part{string(p.Read(i)), p.Synced(i)}
	}
	return s
}

// lasting: a state whose live area has these bytes, all synced, and whose other area has none.
func lasting(live int, data string) state {
	s := state{live: live}
	s.parts[live] = part{data, len(data)}
	return s
}

// stands: the platter must tell this.
func stands(t *testing.T, what string, p *platter.Platter, want state) {
	t.Helper()
	if got := tell(p); got != want {
		t.Errorf("%s: the platter: %s; want %s", what, show(got), show(want))
	}
}

// mustBe: a call must have this answer.
func mustBe(t *testing.T, what string, got, want api.Errno) {
	t.Helper()
	if got != want {
		t.Errorf("%s: %d; want %d", what, got, want)
	}
}

// filled: a platter whose live area has these bytes, all synced, and whose other area has others, that aren't.
func filled(t *testing.T, live int, data, other string) *platter.Platter {
	t.Helper()
	p := platter.New()
	if live == 1 {
		mustBe(t, "Flip", p.Flip(), api.OK)
	}
	mustBe(t, "Append", p.Append(live, []byte(data)), api.OK)
	mustBe(t, "Sync", p.Sync(live), api.OK)
	mustBe(t, "Append", p.Append(1-live, []byte(other)), api.OK)
	return p
}

// keeps: the journal must keep this.
func keeps(t *testing.T, what string, j *journal.Journal, want api.Kept) {
	t.Helper()
	if got := j.Kept(); !same(got, want) {
		t.Errorf("%s: Kept: %s; want %s", what, show(got), show(want))
	}
}

// opens: Open must answer a journal that keeps this.
func opens(t *testing.T, what string, p *platter.Platter, want api.Kept) *journal.Journal {
	t.Helper()
	j, k, e := journal.Open(p)
	if e != api.OK || j == nil || !same(k, want) {
		t.Fatalf("%s: Open: %v, %s, %d; want %s", what, j != nil, show(k), e, show(want))
	}
	keeps(t, what, j, want)
	return j
}

// refused: Open must answer this error alone, and leave the platter as it is.
func refused(t *testing.T, what string, p *platter.Platter, want api.Errno) {
	t.Helper()
	before := tell(p)
	j, k, e := journal.Open(p)
	if e != want || j != nil || !same(k, api.Kept{}) {
		t.Errorf("%s: Open: %v, %s, %d; want %d alone", what, j != nil, show(k), e, want)
	}
	stands(t, what, p, before)
}

// journalOf: a journal that keeps this, on a platter with such an area live, where it is one record.
func journalOf(t *testing.T, live int, k api.Kept) (*journal.Journal, *platter.Platter) {
	t.Helper()
	p := filled(t, live, frame(whole(allFields(k))), "")
	return opens(t, "P18.1: one record", p, k), p
}

// armed: in how many changes the power goes; 0: not within the first 20. The platter itself isn't changed.
func armed(p *platter.Platter) int {
	other := p.Clone()
	for n := range 20 {
		if other.Append(0, nil) == api.ErrDown {
			return n + 1
		}
	}
	return 0
}
