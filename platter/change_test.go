package platter_test

import (
	"math"
	"testing"

	"veneer/api"
	"veneer/platter"
)

// P17.2: what Append does to the area, and that nothing else is another one; the bytes may be any, and are not synced.
func TestAppend(t *testing.T) {
	all := make([]byte, 256)
	for i := range all {
		all[i] = byte(i)
	}
	for _, x := range many() {
		for _, data := range []string{"", "a", "\x00", "\xff\xfe", text(64), text(5000), string(all)} {
			for area := range 2 {
				p, want := made(t, x), x
				mustBe(t, "P17.2: Append", p.Append(area, []byte(data)), api.OK)
				want.parts[area].data += data
				is(t, "P17.2: Append", p, want)
			}
		}
		p := made(t, x)
		mustBe(t, "P17.2: Append of nil", p.Append(0, nil), api.OK)
		is(t, "P17.2: Append of nil", p, x)
	}
}

// P17.2: all of the area's bytes are synced, none of the other one's; once more it is the same.
func TestSync(t *testing.T) {
	for _, x := range many() {
		for area := range 2 {
			p, want := made(t, x), x
			want.parts[area].synced = len(x.parts[area].data)
			for range 2 {
				mustBe(t, "P17.2: Sync", p.Sync(area), api.OK)
				is(t, "P17.2: Sync", p, want)
			}
			p.Append(area, []byte("more"))
			want.parts[area].data += "more"
			is(t, "P17.2: what comes behind a Sync", p, want)
		}
	}
}

// P17.2: the area that isn't live has no bytes any more, and none of them comes back; the live one is as it was.
func TestWipe(t *testing.T) {
	for _, x := range many() {
		p, want := made(t, x), x
		other := 1 - x.live
		want.parts[other] = part{}
		for range 2 {
			mustBe(t, "P17.2: Wipe", p.Wipe(other), api.OK)
			is(t, "P17.2: Wipe", p, want)
		}
		cut := p.Clone()
		cut.Cut(math.MaxInt, math.MaxInt)
		want.parts[x.live].synced = len(x.parts[x.live].data)
		is(t, "P17.2: a Wipe lasts", cut, want)

		p.Append(other, []byte("new"))
		want.parts[other] = part{"new", 0}
		want.parts[x.live].synced = x.parts[x.live].synced
		is(t, "P17.2: Append behind a Wipe", p, want)
		p.Sync(other)
		want.parts[other].synced = 3
		is(t, "P17.2: Sync behind a Wipe", p, want)
	}
}

// P17.2: the other area is live, and stays so; no bytes are others.
func TestFlip(t *testing.T) {
	for _, x := range many() {
		x.parts[1-x.live].synced = len(x.parts[1-x.live].data)
		p, want := made(t, x), x
		want.live = 1 - x.live
		mustBe(t, "P17.2: Flip", p.Flip(), api.OK)
		is(t, "P17.2: Flip", p, want)

		own := &want.parts[x.live]
		own.data = own.data[:own.synced]
		cut := p.Clone()
		cut.Cut()
		is(t, "P17.2: a Flip lasts", cut, want)
		p.Arm(1)
		p.Append(0, nil)
		p.Cut()
		is(t, "P17.2: a Flip lasts when the power goes in a change", p, want)
		mustBe(t, "P17.2: Flip back", p.Flip(), api.OK)
		want.live = x.live
		is(t, "P17.2: Flip back", p, want)
	}
}

// P17.2: area 0 is live at first; each Flip that is done makes it the other one.
func TestFlipByTurns(t *testing.T) {
	p := platter.New()
	for i := range 9 {
		if p.Live() != i%2 {
			t.Errorf("P17.2: behind %d Flips the area %d is live", i, p.Live())
		}
		mustBe(t, "P17.2: Flip", p.Flip(), api.OK)
	}
}

// P17.2: the way of a journal that is laid anew.
func TestLaidAnew(t *testing.T) {
	p := made(t, state{parts: [2]part{{"old bytes", 5}, {"rest", 2}}})
	for i, s := range []step{wipes(1), adds(1, "all "), adds(1, "anew"), syncs(1), flips(), wipes(0)} {
		mustBe(t, "P17.2: "+s.name, s.do(p), api.OK)
		want := []state{
			{parts: [2]part{{"old bytes", 5}, {}}},
			{parts: [2]part{{"old bytes", 5}, {"all ", 0}}},
			{parts: [2]part{{"old bytes", 5}, {"all anew", 0}}},
			{parts: [2]part{{"old bytes", 5}, {"all anew", 8}}},
			{live: 1, parts: [2]part{{"old bytes", 5}, {"all anew", 8}}},
			{live: 1, parts: [2]part{{}, {"all anew", 8}}},
		}[i]
		is(t, "P17.2: behind "+s.name, p, want)
	}
}

// P17.3: of no area there are no bytes, and none are synced, whether the power is there or not.
func TestTellNoArea(t *testing.T) {
	for _, x := range many() {
		for _, p := range []*platter.Platter{made(t, x), made(t, gone(x))} {
			for _, area := range noAreas() {
				if b, n := p.Read(area), p.Synced(area); len(b) != 0 || n != 0 {
					t.Errorf("P17.3: area %d: %q, %d", area, b, n)
				}
			}
		}
	}
}

// P17.3: what is asked changes nothing, and is no change that Arm counts.
func TestTellingChangesNothing(t *testing.T) {
	for _, x := range many() {
		p := made(t, x)
		p.Arm(2)
		for range 3 {
			is(t, "P17.3: asked again", p, x)
			p.Read(-1)
			p.Synced(2)
		}
		isArmed(t, "P17.3: asked again", p, 2)
		p.Append(0, nil)
		p.Append(0, nil)
		for range 3 { // while the power is gone
			is(t, "P17.3: without power", p, gone(x))
		}
	}
}

// P17.3: what a nil platter answers.
func TestNilTells(t *testing.T) {
	var p *platter.Platter
	p.Arm(1)
	p.Cut()
	p.Cut(1, 2, 3)
	p.Arm(-1)
	for _, area := range append(noAreas(), 0, 1) {
		if b, n := p.Read(area), p.Synced(area); len(b) != 0 || n != 0 {
			t.Errorf("P17.3: nil: area %d: %q, %d", area, b, n)
		}
	}
	is(t, "P17.3: nil", p, state{})
	if p.Clone() != nil {
		t.Error("P17.3: nil: Clone is none")
	}
	mustBe(t, "P17.1: nil, behind Arm and Cut", p.Append(0, nil), api.ErrNil)
}
