package machine_test

import (
	"cmp"
	"maps"
	"math/rand"
	"slices"
	"testing"

	"veneer/api"
	"veneer/blob"
	"veneer/machine"
	"veneer/op"
	"veneer/session"
	"veneer/union"
	"veneer/upper"
)

// rig is a second machine, made of the chapters' words: a union, and seats in a map.
type rig struct {
	at    int64
	files *union.Union
	room  int
	seats map[int]api.Seat
}

// list: the seats by clients.
func (g *rig) list() []api.Seat {
	return slices.SortedFunc(maps.Values(g.seats), func(a, b api.Seat) int { return cmp.Compare(a.Client, b.Client) })
}

// look: the state that chapter 14 names.
func (g *rig) look(client int, number int64) session.State {
	seat, there := g.seats[client]
	switch {
	case client < 1 || client > 8 || number < 1 || number > 1<<40:
		return session.Bad
	case !there || seat.Number < number:
		return session.New
	case seat.Number > number:
		return session.Old
	case seat.Kept:
		return session.Kept
	}
	return session.Forgot
}

// record: a seat, and as many replies as there is room for.
func (g *rig) record(seat api.Seat) {
	g.seats[seat.Client] = seat
	for {
		sum, first := 0, api.Seat{}
		for _, x := range g.list() {
			sum += len(x.Reply)
			if x.Kept && (first.Client == 0 || x.At < first.At) {
				first = x
			}
		}
		if sum <= g.room {
			return
		}
		g.seats[first.Client] = gone(first.Client, first.Number, first.At)
	}
}

// apply: an entry by the chapter's words, and in which state it was; the latest results are told by clients.
func (g *rig) apply(e api.Entry, results map[int]api.Result) (api.Result, session.State) {
	g.at++
	state := g.look(e.Client, e.Number)
	switch state {
	case session.Bad:
		return code(api.ErrArg), state
	case session.Old, session.Forgot:
		return code(api.ErrForgot), state
	case session.Kept:
		return results[e.Client], state
	}
	var r api.Result
	if e.Op.Kind == api.OpForget && op.Check(e.Op) == api.OK {
		if seat := g.seats[e.Op.At]; seat.Kept {
			r.Size = 1
			g.seats[e.Op.At] = gone(seat.Client, seat.Number, seat.At)
		}
	} else {
		r, _ = g.files.Do(e.Op)
	}
	results[e.Client] = r
	g.record(kept(e.Client, e.Number, g.at, packed(r)))
	return r, state
}

// state: the bytes that the machine must have.
func (g *rig) state() string {
	return stateBytes(uint64(g.at), string(g.files.Upper().Encode()), tableBytes(uint64(g.room), g.list()...))
}

// lowers: drawn layers that hang together.
func lowers(r *rand.Rand) [][]api.File {
	all := [][]api.File{low, {dir("/a"), dir("/a/d"), file("/a/d/g", "deep"), file("/c", "see")}, {file("/a", "covers")}, {dir("/b"), file("/b/x", "")}}
	r.Shuffle(len(all), func(i, k int) { all[i], all[k] = all[k], all[i] })
	return all[:r.Intn(len(all)+1)]
}

// drawnPath: one that is seen, or one of few names.
func drawnPath(r *rand.Rand, seen []api.File) string {
	if len(seen) > 0 && r.Intn(3) > 0 {
		return seen[r.Intn(len(seen))].Path
	}
	return pick(r, "/", "/a", "/b", "/c", "/a/f", "/a/n", "/b/x", "/n", "/n/m", "/n/m/o", "//a/./f/", "/a/../b", "x", "", "/n/"+text(17))
}

// drawnOp: an operation of any kind, mostly one that may be.
func drawnOp(r *rand.Rand, seen []api.File) api.Op {
	path, to := drawnPath(r, seen), drawnPath(r, seen)
	if r.Intn(30) == 0 {
		return pick(r, api.Op{}, api.Op{Kind: 12, Path: path}, api.Op{Kind: -3}, forget(0), forget(9), api.Op{Kind: api.OpForget, At: 1, Path: path}, truncate(path, -1), write(path, 0, text(1025)))
	}
	return pick(r, mkdir(path), mkdir(path), create(path), create(path), write(path, r.Intn(4), text(r.Intn(20))), write(path, 0, text(r.Intn(200))), truncate(path, r.Intn(20)), unlink(path), unlink(path), rmdir(path), rename(path, to), rename(path, to), read(path, r.Intn(3), r.Intn(30)), list(path), list("/"), stat(path), forget(1+r.Intn(8)), forget(1+r.Intn(8)))
}

// drawnEntry: mostly a client's next request; often its latest once more, with the same operation or with another one.
func drawnEntry(r *rand.Rand, g *rig, past []api.Entry) api.Entry {
	if len(past) > 0 && r.Intn(4) == 0 {
		return past[max(0, len(past)-1-r.Intn(12))]
	}
	o := drawnOp(r, g.files.List())
	switch r.Intn(25) {
	case 0:
		return entry(pick(r, noClients()...), 1+r.Int63n(3), o)
	case 1:
		return entry(1+r.Intn(8), pick(r, noNumbers()...), o)
	}
	client := 1 + r.Intn(8)
	return entry(client, max(1, g.seats[client].Number+pick[int64](r, -1, 0, 1, 1, 1, 1, 1, 2, 40)), o)
}

// setting is a drawn machine with the second one beside it.
type setting struct {
	store   *blob.Store
	roots   []api.Digest
	m       *machine.Machine
	g       *rig
	results map[int]api.Result
}

// drawn: both, over the same layers, with the same quotas and room.
func drawn(t *testing.T, r *rand.Rand) *setting {
	t.Helper()
	s, roots := stored(t, lowers(r)...)
	nodes, bytes, room := pick(r, 0, 3, 6, 20, 128), pick(r, 0, 20, 300, 8192), pick(r, 0, 5, 12, 30, 30, 100, 8192)
	m, e := machine.New(s, roots, nodes, bytes, room)
	if e != api.OK {
		t.Fatalf("P15.1: New: %d", e)
	}
	u, e := upper.New(nodes, bytes)
	if e != api.OK {
		t.Fatal(e)
	}
	x, e := union.New(s, roots, u)
	if e != api.OK {
		t.Fatal(e)
	}
	return &setting{store: s, roots: roots, m: m, g: &rig{files: x, room: room, seats: map[int]api.Seat{}}, results: map[int]api.Result{}}
}

// holds: the machine must be in all what the second one is.
func (d *setting) holds(t *testing.T) {
	t.Helper()
	if got, want := string(d.m.State()), d.g.state(); got != want {
		t.Fatalf("P15.3: State: %.200x; want %.200x", got, want)
	}
	counts(t, d.m, d.g.at)
	sees(t, d.m, d.g.files.List()...)
	seated(t, d.m, d.g.list()...)
	for client := 0; client <= 9; client++ {
		for step := range int64(3) {
			number := d.g.seats[client].Number + step - 1
			state, want := d.g.look(client, number), api.Result{}
			if state == session.Kept {
				want = d.results[client]
			}
			known(t, d.m, client, number, state, want)
		}
	}
}

// P15.2 to P15.4: drawn scripts, held against the second machine step by step; now and then the script goes on with a clone, or with what Load makes of State.
func TestDrawnScripts(t *testing.T) {
	r := rand.New(rand.NewSource(151))
	states, codes := map[session.State]int{}, map[api.Errno]int{}
	for range 150 {
		d, past := drawn(t, r), []api.Entry{}
		for range 80 {
			switch r.Intn(12) {
			case 0:
				old := d.m
				d.m = d.m.Clone()
				old.Apply(entry(1, api.Greatest, mkdir("/old")))
				old.Apply(entry(2, api.Greatest, forget(3)))
			case 1:
				m, e := machine.Load(d.store, d.roots, d.m.State())
				if e != api.OK {
					t.Fatalf("P15.4: Load of State: %d", e)
				}
				d.m = m
			}
			e := drawnEntry(r, d.g, past)
			past = append(past, e)
			want, state := d.g.apply(e, d.results)
			applies(t, d.m, e, want)
			states[state]++
			codes[want.Code]++
			d.holds(t)
			if t.Failed() {
				t.Fatalf("behind %s", show(e))
			}
		}
	}
	for state := session.Bad; state <= session.Old; state++ {
		if states[state] < 300 {
			t.Errorf("the state %d was drawn only %d times", state, states[state])
		}
	}
	for _, e := range []api.Errno{api.OK, api.ErrArg, api.ErrFull, api.ErrNone, api.ErrThere, api.ErrKind, api.ErrNotDir, api.ErrIsDir, api.ErrNotEmpty, api.ErrForgot, api.ErrPath, api.ErrName, api.ErrRoot, api.ErrRange, api.ErrWithin} {
		if codes[e] < 10 {
			t.Errorf("the error %d was drawn only %d times", e, codes[e])
		}
	}
}

// drawnScript: entries for a machine, whatever it is.
func drawnScript(r *rand.Rand, d *setting, count int) []api.Entry {
	var all []api.Entry
	for range count {
		e := drawnEntry(r, d.g, all)
		d.g.apply(e, d.results)
		all = append(all, e)
	}
	return all
}

// P15.4: machines that begin alike, over one store or another one with the same blobs, answer the same and have the same bytes; so does one that was loaded of the other one's bytes in the midst.
func TestDrawnTwins(t *testing.T) {
	r := rand.New(rand.NewSource(152))
	for range 100 {
		d := drawn(t, r)
		one, two := d.m, d.m.Clone()
		begin := one.State()
		other := d.store.Clone()
		all := drawnScript(r, d, 60)
		three, e := machine.Load(other, d.roots, begin)
		if e != api.OK {
			t.Fatalf("P15.4: Load: %d", e)
		}
		cut := r.Intn(len(all))
		for i, e := range all {
			a, b, c := one.Apply(e), two.Apply(e), three.Apply(e)
			if !same(a.Result, b.Result) || !same(a.Result, c.Result) || a.Client != b.Client || a.Number != c.Number {
				t.Fatalf("P15.4: %s: %s, %s, %s", show(e), show(a), show(b), show(c))
			}
			if string(one.State()) != string(two.State()) || string(one.State()) != string(three.State()) || one.Print() != two.Print() || !slices.Equal(one.List(), three.List()) {
				t.Fatalf("P15.4: behind %s the machines are unlike", show(e))
			}
			if i == cut {
				late, e := machine.Load(other, d.roots, one.State())
				if e != api.OK {
					t.Fatalf("P15.4: Load: %d", e)
				}
				two, three = late, two
			}
		}
	}
}

// P15.4: an entry that is applied twice, at once or later, changes what is seen once: what is seen is what a union sees that did each request at its first coming, and the second answer is the first or ErrForgot.
func TestDrawnTwice(t *testing.T) {
	r := rand.New(rand.NewSource(153))
	again, forgot := 0, 0
	for range 100 {
		d := drawn(t, r)
		files, first := d.g.files.Clone(), []api.Reply{}
		var past []api.Entry
		for number := int64(1); number <= 30; number++ {
			e := entry(1+r.Intn(8), number, drawnOp(r, files.List())) // of each client they rise
			if e.Op.Kind != api.OpForget {
				files.Do(e.Op)
			}
			past = append(past, e)
			first = append(first, d.m.Apply(e))
			for range 1 + r.Intn(3) {
				i := max(0, len(past)-1-r.Intn(10))
				reply := d.m.Apply(past[i])
				switch {
				case same(reply.Result, first[i].Result):
					again++
				case same(reply.Result, code(api.ErrForgot)):
					forgot++
				default:
					t.Fatalf("P15.4: %s: %s, and once more %s", show(past[i]), show(first[i]), show(reply))
				}
			}
			if !slices.Equal(d.m.List(), files.List()) || split(t, d.m).branch != string(files.Upper().Encode()) {
				t.Fatalf("P15.4: behind %s: %s; want %s", show(e), show(d.m.List()), show(files.List()))
			}
		}
	}
	if again < 1000 || forgot < 500 {
		t.Errorf("P15.4: %d answers came again, %d were forgotten", again, forgot)
	}
}
