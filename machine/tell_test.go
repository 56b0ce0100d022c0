package machine_test

import (
	"slices"
	"testing"

	"veneer/api"
	"veneer/machine"
	"veneer/session"
	"veneer/sha"
)

// P15.2: Known with each state: the result beside Kept alone; nothing is changed.
func TestKnown(t *testing.T) {
	m := used(t)
	before := split(t, m)
	known(t, m, 1, 5, session.Kept, done)
	known(t, m, 3, 1, session.Kept, sized(1))
	known(t, m, 8, api.Greatest, session.Kept, api.Result{Data: "wo", Size: 3})
	known(t, m, 2, 5, session.Forgot, done)
	for client, number := range map[int]int64{1: 6, 2: 6, 3: 2, 4: 1, 5: api.Greatest, 7: 1} {
		known(t, m, client, number, session.New, done)
	}
	for client, number := range map[int]int64{1: 4, 2: 1, 8: api.Greatest - 1} {
		known(t, m, client, number, session.Old, done)
	}
	for _, client := range noClients() {
		known(t, m, client, 1, session.Bad, done)
	}
	for _, number := range noNumbers() {
		known(t, m, 1, number, session.Bad, done)
		known(t, m, 4, number, session.Bad, done)
	}
	if now := split(t, m); now != before {
		t.Errorf("P15.2: Known has changed the machine: %s", show(now))
	}
	applies(t, m, entry(1, 6, list("/")), named("a/", "b", "one/"))
	known(t, m, 1, 6, session.Kept, named("a/", "b", "one/"))
	known(t, m, 1, 5, session.Old, done)
	applies(t, m, entry(1, 7, mkdir("/one")), code(api.ErrThere))
	known(t, m, 1, 7, session.Kept, code(api.ErrThere))
}

// P15.2: At, List and Seats step by step.
func TestTell(t *testing.T) {
	m := fresh(t, 9, 99, 10, low)
	counts(t, m, 0)
	seated(t, m)
	sees(t, m, low...)
	for i, r := range []struct {
		e     api.Entry
		files []api.File
		seats []api.Seat
	}{
		{entry(8, 3, unlink("/b")), low[:2], []api.Seat{kept(8, 3, 1, packed(done))}},
		{entry(8, 3, unlink("/b")), low[:2], []api.Seat{kept(8, 3, 1, packed(done))}},
		{entry(8, 2, unlink("/b")), low[:2], []api.Seat{kept(8, 3, 1, packed(done))}},
		{entry(0, 2, unlink("/b")), low[:2], []api.Seat{kept(8, 3, 1, packed(done))}},
		{entry(2, 1, write("/a/f", 0, "H")), []api.File{dir("/a"), file("/a/f", "Hi")}, []api.Seat{kept(2, 1, 5, packed(sized(2))), kept(8, 3, 1, packed(done))}},
		{entry(5, 1, rename("/a", "/c")), []api.File{dir("/c"), file("/c/f", "Hi")}, []api.Seat{kept(2, 1, 5, packed(sized(2))), kept(5, 1, 6, packed(done)), gone(8, 3, 1)}},
		{entry(8, 4, rename("/a", "/c")), []api.File{dir("/c"), file("/c/f", "Hi")}, []api.Seat{gone(2, 1, 5), kept(5, 1, 6, packed(done)), kept(8, 4, 7, packed(code(api.ErrNone)))}},
	} {
		m.Apply(r.e)
		counts(t, m, int64(i+1))
		sees(t, m, r.files...)
		seated(t, m, r.seats...)
	}
}

// P15.3: Print is the digest of the bytes: it is another one behind each request, and the same where nothing was applied.
func TestPrint(t *testing.T) {
	m := fresh(t, 9, 99, 99, low)
	prints := map[api.Digest]int{}
	for i, o := range []api.Op{mkdir("/x"), mkdir("/x"), read("/b", 0, 1), forget(2), {Kind: 99}, unlink("/b")} {
		for _, e := range []api.Entry{entry(1, int64(i+1), o), entry(1, int64(i+1), o), entry(9, 1, o)} {
			m.Apply(e)
			d := m.Print()
			if d != m.Print() || d != m.Clone().Print() || d != sha.Sum(m.State()) {
				t.Errorf("P15.3: Print: %x", d)
			}
			prints[d]++
		}
	}
	if len(prints) != 18 {
		t.Errorf("P15.3: %d prints of 18 states", len(prints))
	}
}

// script: requests of all states, one behind the other.
func script() []api.Entry {
	return []api.Entry{
		entry(1, 6, create("/n")), entry(1, 6, create("/n")), entry(2, 6, forget(1)), entry(1, 6, create("/n")), entry(4, 1, write("/a/f", 2, "!")), entry(9, 1, mkdir("/m")), entry(1, 1, mkdir("/m")), entry(5, 1, rename("/a", "/z")),
		entry(6, 1, list("/")), entry(6, 2, rmdir("/one")), entry(7, 1, unlink("/b")), entry(7, 2, read("/z/f", 0, 9)), entry(7, 3, api.Op{Kind: 99}), entry(3, 2, truncate("/n", 9)), entry(3, 3, mkdir("/a")), entry(3, 4, forget(3)),
	}
}

// P15.3: a clone is the same in all, and goes on apart, either way, step by step.
func TestClone(t *testing.T) {
	for _, turn := range []bool{false, true} {
		stays := used(t)
		goes := stays.Clone()
		if string(goes.State()) != string(stays.State()) || !slices.Equal(goes.List(), stays.List()) || !slices.Equal(goes.Seats(), stays.Seats()) || goes.At() != stays.At() || goes.Print() != stays.Print() {
			t.Errorf("P15.3: a clone: %s; want %s", show(goes.State()), show(stays.State()))
		}
		if turn {
			stays, goes = goes, stays
		}
		before, files, seats := split(t, stays), stays.List(), stays.Seats()
		for i, e := range script() {
			goes.Apply(e)
			counts(t, goes, int64(5+i))
			counts(t, stays, 4)
			if now := split(t, stays); now != before {
				t.Errorf("P15.3: behind %s: the one that stays: %s", show(e), show(now))
			}
			sees(t, stays, files...)
			seated(t, stays, seats...)
		}
		for _, e := range script() {
			stays.Apply(e)
		}
		if string(stays.State()) != string(goes.State()) {
			t.Errorf("P15.3: clones to which the same was applied are unlike")
		}
	}
}

// P15.3: clones in the midst, and clones of clones.
func TestCloneMidst(t *testing.T) {
	m := used(t)
	for i, e := range script() {
		m.Apply(e)
		before := split(t, m)
		c := m.Clone()
		d := c.Clone()
		for _, e := range script()[i:] {
			c.Apply(e)
		}
		behind := split(t, c)
		for _, e := range script()[:i] {
			d.Apply(e)
		}
		if split(t, m) != before || split(t, c) != behind {
			t.Errorf("P15.3: clones behind step %d aren't apart", i)
		}
	}
	c := fresh(t, 1, 2, 3).Clone() // its quotas, and its room
	applies(t, c, entry(1, 1, create("/f")), done)
	applies(t, c, entry(1, 2, create("/g")), code(api.ErrFull))
	applies(t, c, entry(1, 3, write("/f", 0, "123")), code(api.ErrFull))
	seated(t, c, gone(1, 3, 3))
}

// P15.3: each call of a nil machine.
func TestNil(t *testing.T) {
	var none *machine.Machine
	for _, e := range append(script(), entry(0, 0, api.Op{}), entry(-1, -1, mkdir("x")), entry(1, api.Greatest+1, forget(1))) {
		applies(t, none, e, code(api.ErrNil))
	}
	counts(t, none, 0)
	known(t, none, 1, 1, session.Bad, done)
	known(t, none, 0, 0, session.Bad, done)
	if l := none.List(); len(l) != 0 {
		t.Errorf("P15.3: nil: List: %s", show(l))
	}
	if l := none.Seats(); len(l) != 0 {
		t.Errorf("P15.3: nil: Seats: %s", show(l))
	}
	if b := none.State(); len(b) != 0 {
		t.Errorf("P15.3: nil: State: %x", b)
	}
	if d := none.Print(); d != (api.Digest{}) {
		t.Errorf("P15.3: nil: Print: %x", d)
	}
	if none.Clone() != nil {
		t.Error("P15.3: nil: Clone")
	}
}

// Rule 3: what New and Load are handed isn't changed, its spare room neither, and may be written over behind the call; the store's blobs may go.
func TestHandedIn(t *testing.T) {
	right := stateBytes(7, branchBytes(9, 99, fileNode("/n", "new")), tableBytes(99, someSeats()...))
	want := append(low[:3:3], file("/n", "new"), file("/z", "z"))
	s, roots := stored(t, low, []api.File{file("/z", "z")})
	blobs := slices.Collect(s.All())
	spare := append(roots, api.Digest{7}, api.Digest{8})
	was := slices.Clone(spare)
	state := []byte(right + "spare room")
	one, e1 := machine.New(s, spare[:2], 9, 99, 99)
	two, e2 := machine.Load(s, spare[:2], state[:len(right)])
	if e1 != api.OK || e2 != api.OK {
		t.Fatalf("P15.1: %d, %d", e1, e2)
	}
	if !slices.Equal(spare, was) || string(state) != right+"spare room" || !slices.Equal(slices.Collect(s.All()), blobs) {
		t.Error("rule 3: what was handed in is another one")
	}
	clear(spare)
	clear(state)
	applies(t, one, entry(1, 1, create("/n")), done)
	applies(t, one, entry(1, 2, write("/n", 0, "new")), sized(3))
	sees(t, one, want...)
	sees(t, two, want...)
	if string(two.State()) != right {
		t.Errorf("rule 3: bytes written over: %.80x", two.State())
	}
	if !slices.Equal(slices.Collect(s.All()), blobs) {
		t.Error("rule 3: the store is another one")
	}
	for d := range s.All() {
		s.Drop(d)
	}
	sees(t, one.Clone(), want...)
	applies(t, two, entry(4, 1, read("/z", 0, 9)), api.Result{Data: "z", Size: 1})
	applies(t, two, entry(4, 2, unlink("/a/f")), done)
	if s.Count() != 0 {
		t.Error("rule 3: the store is another one")
	}
}

// Rule 3: what is answered is new memory: written over, it changes neither the machine nor another answer.
func TestAnswered(t *testing.T) {
	m := used(t)
	names := named("a/", "b", "one/")
	whole := m.Apply(entry(4, 1, list("/"))).Result
	again := m.Apply(entry(4, 1, list("/"))).Result
	_, r := m.Known(4, 1)
	_, q := m.Known(4, 1)
	for _, x := range []api.Result{whole, again, r} {
		clear(x.Names[:cap(x.Names)])
		known(t, m, 4, 1, session.Kept, names)
		if !same(q, names) {
			t.Error("rule 3: two answers share memory")
		}
	}
	clear(q.Names[:cap(q.Names)])
	adds(t, m, entry(4, 1, list("/")), names)
	applies(t, m, entry(4, 2, list("/")), names)

	before := split(t, m)
	f1, f2, s1, s2, b1, b2 := m.List(), m.List(), m.Seats(), m.Seats(), m.State(), m.State()
	files, seats, bytes := slices.Clone(f2), slices.Clone(s2), slices.Clone(b2)
	clear(f1[:cap(f1)])
	clear(s1[:cap(s1)])
	clear(b1[:cap(b1)])
	if !slices.Equal(f2, files) || !slices.Equal(s2, seats) || !slices.Equal(b2, bytes) {
		t.Error("rule 3: two answers share memory")
	}
	if split(t, m) != before {
		t.Error("rule 3: an answer is the machine's memory")
	}
	sees(t, m, files...)
	seated(t, m, seats...)
	for _, e := range script() {
		m.Apply(e)
	}
	if !slices.Equal(f2, files) || !slices.Equal(s2, seats) || !slices.Equal(b2, bytes) {
		t.Error("rule 3: an answer goes with the machine")
	}
}

// Rule 2: beside an error's Code each field of a result is zero.
func TestZeroBesideErrors(t *testing.T) {
	m := used(t)
	applies(t, m, entry(1, 6, list("/")), named("a/", "b", "one/"))
	for _, e := range []api.Entry{entry(9, 1, list("/")), entry(1, 5, list("/")), entry(2, 5, list("/")), entry(2, 6, list("/b")), entry(2, 6, list("/b")), entry(2, 7, read("/a", 0, 9)), entry(2, 8, write("/b", 0, text(200)))} {
		r := m.Apply(e).Result
		if r.Code == api.OK || !same(r, code(r.Code)) {
			t.Errorf("rule 2: Apply(%s): %s", show(e), show(r))
		}
	}
}
