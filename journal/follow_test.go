package journal_test

import (
	"fmt"
	"math"
	"math/rand"
	"slices"
	"testing"

	"veneer/api"
	"veneer/journal"
	"veneer/platter"
)

// P18.5: what follows of the others: drawn scripts, and all losses of power in one.

// script: deeds of each kind, each of which fits behind those ahead of it, but for some.
func script() []deed {
	return []deed{
		views(3), adds(entry(1)), adds(entry(2)), views(3), adopts(3, 1, entries(70, 2)), adopts(3, 4, nil), adds(entry(4)), lays(api.Kept{View: 3, Normal: 3, Base: 2, State: "state", Entries: entries(3, 2)}),
		adds(entry(5)), lays(api.Kept{Normal: 1}), adopts(5, 2, nil), views(9), adds(api.Entry{Op: long()[0]}), adds(entry(3)), lays(api.Kept{View: 9, Normal: 5, Base: 3, State: text(200)}), lays(api.Kept{}), adds(entry(1)), views(1),
	}
}

// loss is a loss of power within a deed: the platter, without power, what was kept ahead of the deed, and what the deed makes.
type loss struct {
	p     *platter.Platter
	live  int // which area was live ahead of the deed
	d     deed
	ahead api.Kept
	made  api.Kept
}

// lost: the script is played on a new platter till the power goes, in its change of that number; false: it has fewer.
func lost(t *testing.T, calls int) (loss, bool) {
	t.Helper()
	p := platter.New()
	j := opens(t, "P18.1: new", p, api.Kept{})
	p.Arm(calls)
	k := api.Kept{}
	for _, d := range script() {
		next, fits := d.after(k)
		l := loss{p, p.Live(), d, k, next}
		switch e := d.do(j); {
		case !fits:
			mustBe(t, "P18.2: "+d.name, e, api.ErrArg)
		case e == api.ErrDown:
			return l, true
		default:
			mustBe(t, "P18.2: "+d.name, e, api.OK)
			k = next
		}
		keeps(t, "P18.2: "+d.name, j, k)
	}
	return loss{}, false
}

// left: what must be there of a loss, once the power came again with this on the platter.
func (l loss) left(p *platter.Platter) api.Kept {
	there := p.Live() != l.live // of a Lay: the other area is live already
	if !l.d.lays {
		there = len(p.Read(l.live)) == len(l.p.Read(l.live)) // of another deed: its whole frame is left
	}
	if there {
		return l.made
	}
	return l.ahead
}

// keepsOf: for each area, each number of bytes that may be left of those that weren't synced.
func keepsOf(p *platter.Platter) [][]int {
	var list [][]int
	for area := range 2 {
		for more := range len(p.Read(area)) - p.Synced(area) + 1 {
			keep := []int{math.MaxInt, math.MaxInt}
			keep[area] = more
			list = append(list, keep, []int{more * (1 - area), more * area})
		}
	}
	return list
}

// P18.5: the power goes in each change of a script, and any number of bytes is left of what wasn't synced: Open answers what was kept ahead of the call, or what that made; opened again it is the same, and the journal goes on.
func TestEachLoss(t *testing.T) {
	calls := 0
	for {
		calls++
		l, ok := lost(t, calls)
		if !ok {
			break
		}
		what := fmt.Sprintf("P18.5: the power goes in the change %d, in %s", calls, l.d.name)
		for _, keep := range keepsOf(l.p) {
			p := l.p.Clone()
			p.Cut(keep...)
			want := l.left(p)
			j := opens(t, what, p, want)
			again := opens(t, what+", opened again", p.Clone(), want)
			if again == j {
				t.Error("P18.1: two journals are one")
			}
			if len(want.Entries) < 32 {
				played(t, what+", going on", j, p, adds(entry(40)))
			}
			played(t, what+", going on", j, p, lays(fullAt(5, 1)))
		}
	}
	changes := 0 // two of each record that is taken, five of each that lays all anew
	k := api.Kept{}
	for _, d := range script() {
		next, fits := d.after(k)
		if !fits {
			continue
		}
		k = next
		changes += 2
		if d.lays {
			changes += 3
		}
	}
	if calls != changes+1 {
		t.Errorf("P18.2, P18.3: the script makes %d changes; want %d", calls-1, changes)
	}
}

// P18.5: the power goes a second time, while Open lays all anew behind the first loss, and a third time: the same is there.
func TestLossWithinOpen(t *testing.T) {
	met := 0
	for calls := 1; ; calls++ {
		l, ok := lost(t, calls)
		if !ok {
			break
		}
		for _, keep := range keepsOf(l.p) {
			for second := 1; second <= 5; second++ {
				p := l.p.Clone()
				p.Cut(keep...)
				want := l.left(p)
				p.Arm(second)
				if _, _, e := journal.Open(p); e != api.ErrDown {
					mustBe(t, "P18.5: nothing is torn", e, api.OK)
					break
				}
				met++
				p.Cut([][]int{nil, {7, 7}, {math.MaxInt, math.MaxInt}}[(calls+second)%3]...)
				p.Arm(second%4 + 1)
				if _, k, e := journal.Open(p); e == api.OK && !same(k, want) {
					t.Errorf("P18.5: lost twice: %s; want %s", show(k), show(want))
				}
				p.Cut(math.MaxInt, 3)
				opens(t, "P18.5: lost three times", p, want)
				opens(t, "P18.5: lost three times, opened again", p, want)
			}
		}
	}
	if met < 100 {
		t.Errorf("P18.5: only %d losses within Open", met)
	}
}

// drawnEntry: an entry of any shape.
func drawnEntry(r *rand.Rand) api.Entry {
	o := api.Op{Kind: pick(r, r.Intn(13), -1), Path: text(pick(r, 0, 3, r.Intn(30))), To: text(r.Intn(3)), Data: text(pick(r, 0, r.Intn(50))), At: r.Intn(300) - 100, Size: r.Intn(9)}
	if r.Intn(30) == 0 {
		o = pick(r, append(long(), odd()...)...)
	}
	return api.Entry{Client: r.Intn(12) - 2, Number: r.Int63n(1 << 41), Op: o}
}

// drawnList: at most so many of them.
func drawnList(r *rand.Rand, most int) []api.Entry {
	var list []api.Entry
	for range r.Intn(most + 1) {
		list = append(list, drawnEntry(r))
	}
	return list
}

// drawnDeed: one that mostly fits behind what is kept.
func drawnDeed(r *rand.Rand, k api.Kept) deed {
	last := k.Base + int64(len(k.Entries))
	near := pick(r, 0, 0, 1, int64(r.Intn(5)), -1, api.Greatest)
	switch r.Intn(8) {
	case 0, 1:
		return views(k.View + near)
	case 2, 3, 4:
		return adds(drawnEntry(r))
	case 5, 6:
		from := pick(r, last, k.Base, k.Base+int64(r.Intn(len(k.Entries)+1)), last-1, last+1, k.Base-1)
		return adopts(k.View+near, from, drawnList(r, pick(r, 2, 2, 8, 34)))
	}
	view := r.Int63n(20)
	next := api.Kept{View: view, Normal: view - int64(r.Intn(3)), Base: pick(r, last, last, 0, k.Base, r.Int63n(40), api.Greatest-int64(r.Intn(9))), Entries: drawnList(r, pick(r, 2, 2, 8, 34))}
	if next.Base > 0 || r.Intn(9) == 0 {
		next.State = text(pick(r, 0, 1, r.Intn(400), r.Intn(400)))
	}
	return lays(next)
}

// P18.1 to P18.5: drawn scripts, in which the power goes within any change, and any number of bytes is left of what wasn't synced.
func TestDrawnScripts(t *testing.T) {
	r := rand.New(rand.NewSource(185))
	met := map[string]int{}
	for range 400 {
		p := platter.New()
		k := api.Kept{}
		j := opens(t, "P18.1: new", p, k)
		for range 60 {
			if r.Intn(3) == 0 {
				p.Arm(r.Intn(8))
			}
			d := drawnDeed(r, k)
			next, fits := d.after(k)
			before := p.Clone()
			e := d.do(j)
			if !fits {
				met["refused"]++
				mustBe(t, "P18.2: refused: "+d.name, e, api.ErrArg)
				stands(t, "P18.2: refused: "+d.name, p, tell(before))
			} else if e == api.OK {
				met[d.name]++
				k = next
			} else {
				met["lost"]++
				mustBe(t, "P18.2: "+d.name, e, api.ErrDown)
				j, k = rescued(t, r, p, loss{p.Clone(), before.Live(), d, k, next}, met)
			}
			keeps(t, "P18.5: behind "+d.name, j, k)
			if t.Failed() {
				t.FailNow()
			}
		}
	}
	for _, name := range []string{"refused", "View", "Entry", "Adopt", "Lay", "lost", "lost: made", "lost: ahead", "lost again"} {
		if met[name] < 200 {
			t.Errorf("P18.5: drawn scripts met '%s' only %d times", name, met[name])
		}
	}
}

// rescued: the power comes again, now and then to go within Open, till Open answers a journal; and what that keeps.
func rescued(t *testing.T, r *rand.Rand, p *platter.Platter, l loss, met map[string]int) (*journal.Journal, api.Kept) {
	t.Helper()
	p.Cut(drawnKeep(r)...)
	want := l.left(p)
	if same(want, l.made) {
		met["lost: made"]++
	} else {
		met["lost: ahead"]++
	}
	for {
		p.Arm(r.Intn(7))
		j, k, e := journal.Open(p)
		if e == api.ErrDown {
			met["lost again"]++
			p.Cut(drawnKeep(r)...)
			continue
		}
		if e != api.OK || !same(k, want) {
			t.Fatalf("P18.5: behind a loss within %s: %s, %d; want %s", l.d.name, show(k), e, show(want))
		}
		keeps(t, "P18.5: behind a loss", j, want)
		return j, k
	}
}

// drawnKeep: how many bytes are left of each area.
func drawnKeep(r *rand.Rand) []int {
	keep := []int{pick(r, 0, 1, r.Intn(60), r.Intn(400), math.MaxInt), pick(r, 0, 1, r.Intn(60), r.Intn(400), math.MaxInt)}
	return keep[:pick(r, 0, 1, 2, 2, 2)]
}

// P18.5: one script twice has the same answers and the same platter, whatever became of other journals (rule 5).
func TestSameAgain(t *testing.T) {
	r := rand.New(rand.NewSource(186))
	for range 60 {
		var js [3]*journal.Journal
		var ps [3]*platter.Platter
		for i := range js {
			ps[i] = platter.New()
			js[i] = opens(t, "P18.1: new", ps[i], api.Kept{})
		}
		for range 30 {
			d := drawnDeed(r, js[0].Kept())
			drawnDeed(r, js[2].Kept()).do(js[2])
			mustBe(t, "rule 5: "+d.name, d.do(js[1]), d.do(js[0]))
			stands(t, "rule 5: "+d.name, ps[1], tell(ps[0]))
			keeps(t, "rule 5: "+d.name, js[1], js[0].Kept())
		}
	}
}

// P18.5: whatever is left of frames that were written one behind the other, Open answers what the whole ones keep.
func TestCutAnywhere(t *testing.T) {
	payloads := []string{whole(viewFields(3)), whole(entryRecord(entry(1))), whole(adoptFields(4, 1, entries(2, 2))), whole(allFields(fullAt(8, 2))), whole(entryRecord(entry(9)))}
	data := frames(payloads...)
	for cut := range len(data) + 1 {
		count := 0
		for size := 0; count < len(payloads); count++ {
			if size += len(frame(payloads[count])); size > cut {
				break
			}
		}
		want, _ := recalled(payloads[:count]...)
		p := platter.New()
		p.Append(0, []byte(data))
		p.Cut(cut)
		opens(t, "P18.5: cut anywhere", p, want)
		if size := len(frames(payloads[:count]...)); (size < cut) != (p.Live() == 1) {
			t.Errorf("P18.1: of %d bytes %d are whole frames: the area %d is live", cut, size, p.Live())
		}
	}
	if got, _ := recalled(slices.Clone(payloads)...); len(got.Entries) != 3 {
		t.Errorf("the chapter's words, once more: %s", show(got))
	}
}
