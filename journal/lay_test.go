package journal_test

import (
	"math"
	"slices"
	"testing"

	"veneer/api"
	"veneer/journal"
	"veneer/platter"
)

// layings: what may be kept, of all shapes.
func layings() []api.Kept {
	return []api.Kept{
		{}, {View: 1}, {View: 9, Normal: 9}, {View: api.Greatest, Normal: 3}, {Base: 1}, {View: 2, Base: 8, State: "s"}, {View: 2, Normal: 1, Base: 24, State: text(3000), Entries: entries(25, 3)},
		{Base: 8, State: text(api.MaxState)}, fullAt(0, 32), fullAt(8, 1), fullAt(api.Greatest-32, 32), {Base: api.Greatest, State: "\x00"}, greatKept(),
		{Entries: []api.Entry{{Client: math.MinInt, Number: math.MinInt64, Op: odd()[3]}, {Client: math.MaxInt, Number: math.MaxInt64, Op: odd()[4]}, {}}},
	}
}

// P18.3: whatever was kept ahead, all is what is laid, one record in the other area alone; the views may fall.
func TestLay(t *testing.T) {
	for _, start := range []api.Kept{{}, {View: api.Greatest, Normal: api.Greatest}, fullAt(8, 32), {View: 3, Normal: 2, Base: 16, State: text(500), Entries: entries(17, 2)}} {
		for _, k := range layings() {
			plays(t, "P18.3", start, lays(k), true)
		}
		plays(t, "P18.3: as it is", start, lays(start), true)
	}
}

// P18.3: what may not be kept is ErrArg, and nothing is done.
func TestLayRefused(t *testing.T) {
	for _, start := range []api.Kept{{}, fullAt(8, 3)} {
		for _, k := range []api.Kept{
			{View: -1, Normal: -1}, {View: -1}, {Normal: 1}, {View: 4, Normal: 5}, {View: 4, Normal: -1}, {View: api.Greatest + 1}, {View: math.MaxInt64, Normal: math.MaxInt64}, {View: math.MinInt64, Normal: math.MinInt64},
			{Base: -1}, {Base: math.MinInt64}, {Base: api.Greatest + 1}, {Base: math.MaxInt64}, {Base: math.MaxInt64, Entries: entries(1, 1)}, {Base: api.Greatest, Entries: entries(1, 1)}, {Base: api.Greatest - 31, Entries: entries(1, 32)}, {Base: -1, State: "s"},
			{State: "s"}, {View: 1, Normal: 1, State: "\x00"}, {Base: 1, State: text(api.MaxState + 1)}, {Base: 1, State: text(1 << 20)},
			{Entries: entries(1, 33)}, {Base: 8, State: "s", Entries: entries(9, 33)}, {Entries: make([]api.Entry, 1<<16+1)},
			{Entries: []api.Entry{{Op: long()[0]}}}, {Entries: []api.Entry{entry(1), {Op: long()[1]}}}, {Entries: []api.Entry{{Op: long()[2]}, entry(1)}},
		} {
			plays(t, "P18.3", start, lays(k), false)
		}
	}
}

// P18.3: the five changes in their order: where the power goes in one of them, ErrDown, and the platter has what those ahead of it left; and opened anew there is what was kept, or, once the other area is live, what was laid.
func TestLayPower(t *testing.T) {
	start := fullAt(8, 3)
	old := frame(whole(allFields(start)))
	for live := range 2 {
		for _, k := range layings() {
			data := frame(whole(allFields(k)))
			for calls := 1; calls <= 7; calls++ {
				j, p := journalOf(t, live, start)
				p.Append(1-live, []byte("left over"))
				p.Arm(calls)
				if calls > 5 {
					mustBe(t, "P18.3: the power goes later", j.Lay(k), api.OK)
					keeps(t, "P18.3: the power goes later", j, k)
					stands(t, "P18.3: the power goes later", p, lasting(1-live, data))
					if armed(p) != calls-5 {
						t.Errorf("P18.3: the power goes in the change %d; want %d", armed(p), calls-5)
					}
					continue
				}
				mustBe(t, "P18.3: the power goes", j.Lay(k), api.ErrDown)
				stands(t, "P18.3: the power goes", p, wayAnew(live, calls, old, "left over", data))
				for _, keep := range [][]int{nil, {5, 5}, {math.MaxInt, math.MaxInt}} {
					q := p.Clone()
					q.Cut(keep...)
					want := start
					if calls == 5 {
						want = k
					}
					opens(t, "P18.3: opened anew", q, want)
				}
			}
		}
	}
}

// P18.3: laid many times, the areas take turns.
func TestLayByTurns(t *testing.T) {
	p := platter.New()
	j := opens(t, "P18.1: new", p, api.Kept{})
	for i := range 9 {
		for _, d := range []deed{lays(fullAt(int64(i), i)), views(6), adds(entry(9)), adopts(7, int64(2*i), entries(80, i))} {
			if !played(t, "P18.3: by turns", j, p, d) {
				t.Errorf("P18.3: %s wasn't taken", d.name)
			}
		}
		if p.Live() != (i+1)%2 {
			t.Errorf("P18.3: laid %d times, the area %d is live", i+1, p.Live())
		}
	}
}

// P18.4: what is kept is new memory at each call, and what Open answers is, too.
func TestKeptIsNew(t *testing.T) {
	for _, start := range []api.Kept{fullAt(0, 1), fullAt(8, 3), fullAt(8, 32)} {
		for _, rest := range []string{"", "torn"} {
			p := filled(t, 0, frame(whole(allFields(start)))+rest, "")
			j, first, e := journal.Open(p)
			mustBe(t, "P18.1: Open", e, api.OK)
			second, third := j.Kept(), j.Kept()
			scribble(first.Entries)
			if !same(second, start) || !same(third, start) {
				t.Error("P18.4: what Open answered went with what Kept did")
			}
			scribble(second.Entries)
			if !same(third, start) {
				t.Error("P18.4: two answers of Kept share memory")
			}
			third.Entries = append(third.Entries, entry(1))
			keeps(t, "P18.4: answers were written over", j, start)
			mustBe(t, "P18.2: View", j.View(9), api.OK)
			start := start
			start.View = 9
			keeps(t, "P18.4: answers were written over", j, start)
			opens(t, "P18.4: answers were written over", p, start)
		}
	}
}

// P18.4: what Kept answered ahead of a call stays as it was behind it, and so does what was answered of entries that were taken away, and of others in their place.
func TestKeptStays(t *testing.T) {
	j, _ := journalOf(t, 0, fullAt(8, 2))
	var answers, want []api.Kept
	for _, d := range []deed{adds(entry(50)), adds(entry(51)), adopts(6, 9, nil), adds(entry(52)), adopts(6, 10, entries(60, 2)), views(7), adopts(7, 8, entries(70, 1)), adds(entry(53)), lays(fullAt(16, 1)), adds(entry(54)), lays(api.Kept{}), adds(entry(55))} {
		k := j.Kept()
		answers, want = append(answers, k), append(want, own(k))
		mustBe(t, "P18.4: "+d.name, d.do(j), api.OK)
		for i, k := range answers {
			if !same(k, want[i]) {
				t.Errorf("P18.4: behind %s an answer of before is another one: %s; want %s", d.name, show(k), show(want[i]))
			}
		}
	}
	for _, k := range answers {
		scribble(k.Entries)
	}
	keeps(t, "P18.4: all answers were written over", j, api.Kept{Entries: []api.Entry{entry(55)}})
	list := slices.Clone(j.Kept().Entries)
	mustBe(t, "P18.3: Lay of what is kept", j.Lay(j.Kept()), api.OK)
	keeps(t, "P18.3: Lay of what is kept", j, api.Kept{Entries: list})
}
