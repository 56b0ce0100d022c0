package platter_test

import (
	"math"
	"strings"
	"testing"

	"veneer/api"
	"veneer/platter"
)

// ready: a state in which no change at an area of its own is refused but Wipe(0).
func ready() state { return state{parts: [2]part{{"abc", 1}, {"de", 2}}} }

// lastSteps: each kind of change, with what is left if the power goes in it, out of ready.
func lastSteps() map[string]struct {
	step step
	want [2]part
} {
	same := ready().parts
	return map[string]struct {
		step step
		want [2]part
	}{
		"Append, live":     {adds(0, "xyz"), [2]part{{"abcxyz", 1}, {"de", 2}}},
		"Append, other":    {adds(1, "xyz"), [2]part{{"abc", 1}, {"dexyz", 2}}},
		"Append of none":   {adds(0, ""), same},
		"Append of much":   {adds(1, text(3000)), [2]part{{"abc", 1}, {"de" + text(3000), 2}}},
		"Sync, live":       {syncs(0), same},
		"Sync, other":      {syncs(1), same},
		"Wipe":             {wipes(1), same},
		"Flip":             {flips(), same},
		"Append of a zero": {adds(1, "\x00"), [2]part{{"abc", 1}, {"de\x00", 2}}},
	}
}

// P17.4: the power goes within each kind of change, at each number of it: of an Append the bytes are there, of the others nothing is done.
func TestArm(t *testing.T) {
	for name, last := range lastSteps() {
		for n := 1; n < 9; n++ {
			p := made(t, ready())
			p.Arm(n)
			for range n - 1 {
				mustBe(t, "P17.4: a change ahead", p.Append(1, nil), api.OK)
			}
			is(t, "P17.4: one ahead of the last", p, ready())
			mustBe(t, "P17.4: the last: "+name, last.step.do(p), api.ErrDown)
			want := state{down: true, parts: last.want}
			is(t, "P17.4: the last: "+name, p, want)
			for _, s := range steps() {
				refused(t, p, s, api.ErrDown)
			}
		}
	}
}

// P17.4: each kind of change is counted as one, and is done as if there were no arm.
func TestArmCounts(t *testing.T) {
	row := []step{adds(0, "x"), adds(1, "yz"), syncs(0), adds(1, ""), syncs(1), syncs(1), flips(), wipes(0), wipes(0), adds(0, text(100)), syncs(0), flips(), flips(), adds(1, "")}
	for n := 1; n <= len(row); n++ {
		p, free := platter.New(), platter.New()
		p.Arm(n)
		for i, s := range row[:n-1] {
			mustBe(t, "P17.4: "+s.name, s.do(p), api.OK)
			mustBe(t, "P17.2: "+s.name, s.do(free), api.OK)
			is(t, "P17.4: armed, behind "+s.name, p, tell(free))
			isArmed(t, "P17.4: behind "+s.name, p, n-1-i)
		}
		last := row[n-1]
		mustBe(t, "P17.4: "+last.name, last.do(p), api.ErrDown)
		if strings.HasPrefix(last.name, "Append") {
			last.do(free)
		}
		is(t, "P17.4: the power goes in "+last.name, p, gone(tell(free)))
	}
}

// P17.4: what came of an Append in which the power went isn't synced: Cut may take it.
func TestLastBytesAreNotSynced(t *testing.T) {
	for area := range 2 {
		for keep := range 5 {
			p := made(t, ready())
			p.Arm(1)
			mustBe(t, "P17.4: Append", p.Append(area, []byte("xyz")), api.ErrDown)
			want := ready()
			old := want.parts[area]
			data := (old.data + "xyz")[old.synced:]
			data = old.data[:old.synced] + data[:min(keep, len(data))]
			want.parts[0] = part{"a", 1}
			want.parts[area] = part{data, len(data)}
			p.Cut([][]int{{keep}, {0, keep}}[area]...)
			is(t, "P17.4: behind Cut", p, want)
		}
	}
}

// P17.4: with a number below 1 the platter isn't armed any more.
func TestDisarm(t *testing.T) {
	for _, none := range []int{0, -1, -2, -256, -1 << 32, 1<<32 - 1<<33, math.MinInt, math.MinInt + 1} {
		for n := range 4 {
			p := made(t, ready())
			p.Arm(n)
			p.Arm(none)
			is(t, "P17.4: not armed any more", p, ready())
			isArmed(t, "P17.4: not armed any more", p, 0)
			for range 300 {
				mustBe(t, "P17.4: not armed any more", p.Append(0, nil), api.OK)
			}
			p.Arm(2) // and it may be armed once more
			isArmed(t, "P17.4: armed once more", p, 2)
		}
	}
}

// P17.4: the number counts from the last Arm on, whatever was left of the one ahead.
func TestArmAnew(t *testing.T) {
	for one := range 6 {
		for done := range max(one, 1) {
			for two := 1; two < 8; two++ {
				p := made(t, ready())
				p.Arm(one)
				for range done {
					mustBe(t, "P17.4: a change", p.Sync(1), api.OK)
				}
				p.Arm(two)
				is(t, "P17.4: armed anew", p, ready())
				isArmed(t, "P17.4: armed anew", p, two)
			}
		}
	}
}

// P17.4: numbers that nobody comes to.
func TestArmGreat(t *testing.T) {
	for _, n := range []int{1000, 1 << 16, 1<<32 + 1, 1<<62 + 1, math.MaxInt - 1, math.MaxInt} {
		p := platter.New()
		p.Arm(n)
		for range 999 {
			mustBe(t, "P17.4: a change ahead", p.Append(0, nil), api.OK)
		}
		want := api.OK
		if n == 1000 {
			want = api.ErrDown
		}
		mustBe(t, "P17.4: the change 1000", p.Flip(), want)
	}
}

// P17.4: while the power is gone Arm does nothing: the power doesn't come, and behind Cut the platter isn't armed.
func TestArmWithoutPower(t *testing.T) {
	for _, n := range []int{-1, 0, 1, 2, 5, math.MaxInt, math.MinInt} {
		p := made(t, gone(ready()))
		p.Arm(n)
		is(t, "P17.4: Arm without power", p, gone(ready()))
		for _, s := range steps() {
			refused(t, p, s, api.ErrDown)
		}
		p.Cut(9)
		is(t, "P17.5: behind Cut", p, state{parts: [2]part{{"abc", 3}, {"de", 2}}})
		isArmed(t, "P17.4: behind Cut", p, 0)
	}
}

// P17.4: Down, ahead of the change, behind it, and behind Cut; a platter that is armed anew goes down anew.
func TestDown(t *testing.T) {
	p := platter.New()
	for range 3 {
		p.Arm(2)
		for i, want := range []bool{false, true, true} {
			p.Append(0, []byte("a"))
			if p.Down() != want {
				t.Errorf("P17.4: Down behind the change %d: %v", i+1, p.Down())
			}
		}
		p.Cut(1)
		if p.Down() {
			t.Error("P17.5: Down behind Cut")
		}
	}
	is(t, "P17.5: three losses, each keeps one byte", p, state{parts: [2]part{{"aaa", 3}}})
}
