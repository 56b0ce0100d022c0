package vr_test

import (
	"math"
	"testing"

	"veneer/api"
	"veneer/vr"
)

// root: a sealed state's that no core has.
var root = api.Digest{9, 9}

// compacts: Compact must answer this; with an error the core as it was.
func compacts(t *testing.T, what string, c api.Core, to int64, want api.Core, wrong api.Errno) {
	t.Helper()
	got, e := vr.Compact(own(c), to, root)
	mustBe(t, "P20.4: Compact: "+what, e, wrong)
	if !same(got, want) {
		t.Errorf("P20.4: Compact to %d: %s:\n%s; want\n%s", to, what, show(got), show(want))
	}
}

// installs: Install must answer this.
func installs(t *testing.T, what string, c api.Core, base int64, want api.Core, wrong api.Errno) {
	t.Helper()
	got, e := vr.Install(own(c), base, root)
	mustBe(t, "P20.4: Install: "+what, e, wrong)
	if !same(got, want) {
		t.Errorf("P20.4: Install of %d: %s:\n%s; want\n%s", base, what, show(got), show(want))
	}
}

// P20.4: Compact from Base to Commit, in each status.
func TestCompact(t *testing.T) {
	eachNamed(func(name string, c api.Core) {
		for _, to := range []int64{math.MinInt64, -1, 0, 1, 2, 3, 4, 5, 6, 7, api.Greatest, math.MaxInt64} {
			if to < 2 || to > 4 {
				compacts(t, name+", past a bound", c, to, c, api.ErrArg)
				continue
			}
			compacts(t, name, c, to, but(c, func(c *api.Core) { c.Base, c.Entries, c.Root = to, entries(to+1, 6), root }), api.OK)
		}
	})
	c := but(primary(), func(c *api.Core) { c.Commit = 6 })
	compacts(t, "all", c, 6, but(c, func(c *api.Core) { c.Base, c.Entries, c.Root = 6, nil, root }), api.OK)
	c = but(backup(), func(c *api.Core) { c.Commit = 2 })
	compacts(t, "none", c, 2, but(c, func(c *api.Core) { c.Root = root }), api.OK)
	compacts(t, "nothing is committed", c, 3, c, api.ErrArg)
}

// P20.4: Compact and Install of a core that isn't right, which stays as it is.
func TestSealOfWrong(t *testing.T) {
	eachNamed(func(name string, c api.Core) {
		for _, edit := range []func(c *api.Core){
			func(c *api.Core) { c.Left = -1 },
			func(c *api.Core) { c.Nodes = 4 },
			func(c *api.Core) { c.Best = 3 },
			func(c *api.Core) { c.Commit = 9 },
			func(c *api.Core) { c.Base, c.Commit = -3, -1 },
		} {
			wrong := but(c, edit)
			for to := int64(-4); to < 12; to++ {
				compacts(t, "a wrong "+name, wrong, to, wrong, api.ErrArg)
				installs(t, "a wrong "+name, wrong, to, wrong, api.ErrArg)
			}
		}
	})
	compacts(t, "the zero core", api.Core{}, 0, api.Core{}, api.ErrArg)
	installs(t, "the zero core", api.Core{}, 1, api.Core{}, api.ErrArg)
}

// P20.4: Install of a base above Commit: within the entries, at the last one, past them; of who leads ErrState, behind ErrArg.
func TestInstall(t *testing.T) {
	eachNamed(func(name string, c api.Core) {
		for _, base := range []int64{math.MinInt64, -1, 0, 2, 3, 4, 5, 6, 7, 8, 40, api.Greatest - 1, api.Greatest, api.Greatest + 1, math.MaxInt64} {
			switch {
			case base <= 4 || base > api.Greatest:
				installs(t, name+", past a bound", c, base, c, api.ErrArg)
			case name == "primary":
				installs(t, name, c, base, c, api.ErrState)
			default:
				want := but(c, func(c *api.Core) { c.Base, c.Commit, c.Root = base, base, root })
				want.Entries = entries(base+1, 6)
				installs(t, name, c, base, want, api.OK)
				got, _ := vr.Install(c, base, root)
				mustBe(t, "P20.5: Check behind Install: "+name, vr.Check(got), true)
			}
		}
	})
}

// offer: one that a core takes.
func offer(c api.Core) api.Msg {
	from := 1
	if c.Id == 1 {
		from = 0
	}
	return api.Msg{Kind: api.Offer, From: from, To: c.Id, View: 4, Last: 5, Root: root}
}

// P20.4: who takes an offer: who isn't to lead, but in a change; in a change who is to lead, of whom it asked.
func TestWants(t *testing.T) {
	eachNamed(func(name string, c api.Core) {
		takes := name == "backup" || name == "lagging" || name == "chosen"
		mustBe(t, "P20.4: Wants: "+name, vr.Wants(c, offer(c)), takes)
	})
	for best := -1; best < 3; best++ {
		c := but(chosen(), func(c *api.Core) { c.Best = best })
		for from := range 3 {
			m := other(offer(c), func(m *api.Msg) { m.From = from })
			mustBe(t, "P20.4: Wants of the best", vr.Wants(c, m), from == best && from != 1)
		}
	}
	mustBe(t, "P20.4: Wants of the zero core", vr.Wants(api.Core{}, api.Msg{Kind: api.Offer, From: 1, Last: 1}), false)
}

// P20.4: an offer of which one field is another one.
func TestWantsBounds(t *testing.T) {
	list := []struct {
		what string
		edit func(m *api.Msg)
		may  bool
	}{
		{"as it is", func(m *api.Msg) {}, true},
		{"another root", func(m *api.Msg) { m.Root = api.Digest{} }, true},
		{"Data", func(m *api.Msg) { m.Data = "x" }, true},
		{"a result", func(m *api.Msg) { m.Result.Code = 5 }, true},
		{"Last at Commit", func(m *api.Msg) { m.Last = 4 }, false},
		{"Last below Commit", func(m *api.Msg) { m.Last = 3 }, false},
		{"Last at Greatest", func(m *api.Msg) { m.Last = api.Greatest }, true},
		{"Last past Greatest", func(m *api.Msg) { m.Last = api.Greatest + 1 }, false},
		{"Last -1", func(m *api.Msg) { m.Last = -1 }, false},
		{"Commit at Greatest", func(m *api.Msg) { m.Commit = api.Greatest }, true},
		{"Commit past Greatest", func(m *api.Msg) { m.Commit = api.Greatest + 1 }, false},
		{"Commit -1", func(m *api.Msg) { m.Commit = -1 }, false},
		{"Behind at Greatest", func(m *api.Msg) { m.Behind = api.Greatest }, true},
		{"Behind past Greatest", func(m *api.Msg) { m.Behind = api.Greatest + 1 }, false},
		{"Behind -1", func(m *api.Msg) { m.Behind = -1 }, false},
		{"Normal at View", func(m *api.Msg) { m.Normal = 4 }, true},
		{"Normal past View", func(m *api.Msg) { m.Normal = 5 }, false},
		{"Normal -1", func(m *api.Msg) { m.Normal = -1 }, false},
		{"View below", func(m *api.Msg) { m.View = 3 }, false},
		{"View above", func(m *api.Msg) { m.View = 5 }, false},
		{"View above, of the same primary", func(m *api.Msg) { m.View = 7 }, false},
		{"View -1", func(m *api.Msg) { m.View = -1 }, false},
		{"32 entries", func(m *api.Msg) { m.Entries = entries(1, 32) }, true},
		{"33 entries", func(m *api.Msg) { m.Entries = entries(1, 33) }, false},
		{"To another one", func(m *api.Msg) { m.To = (m.To + 1) % 3 }, false},
		{"From itself", func(m *api.Msg) { m.From = m.To }, false},
		{"From -1", func(m *api.Msg) { m.From = -1 }, false},
		{"From 3", func(m *api.Msg) { m.From = 3 }, false},
		{"From the third one", func(m *api.Msg) { m.From = 3 - m.From - m.To }, false},
	}
	for kind := -1; kind < 15; kind++ {
		list = append(list, list[0])
		list[len(list)-1].edit = func(m *api.Msg) { m.Kind = kind }
		list[len(list)-1].may = kind == api.Offer
	}
	for _, c := range []api.Core{backup(), lagging(), chosen()} {
		for _, l := range list {
			mustBe(t, "P20.4: Wants: "+l.what, vr.Wants(c, other(offer(c), l.edit)), l.may)
		}
	}
	for _, c := range []api.Core{primary(), changing(), electing()} {
		for _, l := range list {
			mustBe(t, "P20.4: Wants of one who takes none: "+l.what, vr.Wants(c, other(offer(c), l.edit)), false)
		}
	}
}

// P20.4: drawn ones are what the chapter's words say.
func TestSealDrawn(t *testing.T) {
	d := draw(6)
	wanted := 0
	for range 150000 {
		c := d.core()
		if d.Intn(30) == 0 {
			d.harm(&c)
		}
		n := of(d, d.near(c.Base), d.near(c.Commit), d.near(wordLast(c)), d.upTo(50), api.Greatest+1)
		want, e := wordCompact(c, n, root)
		compacts(t, "a drawn core", c, n, want, e)
		want, e = wordInstall(c, n, root)
		installs(t, "a drawn core", c, n, want, e)
		m := d.msg(c)
		m.Kind = of(d, api.Offer, api.Offer, api.Offer, api.Tell)
		if m.Last <= c.Commit && d.Intn(3) > 0 {
			m.Last = c.Commit + 1
		}
		m.From = of(d, m.From, int(m.View%int64(max(1, c.Nodes))), c.Best)
		wants := wordWants(c, m)
		if wants {
			wanted++
		}
		mustBe(t, "P20.4: Wants of a drawn core", vr.Wants(c, m), wants)
		if t.Failed() {
			t.Fatalf("it is %s; the message %s", show(c), show(m))
		}
	}
	if wanted < 10000 {
		t.Errorf("only %d drawn offers are wanted", wanted)
	}
}
