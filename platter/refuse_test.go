package platter_test

import (
	"strings"
	"testing"

	"veneer/api"
	"veneer/platter"
)

// P17.1: a new platter has no bytes, has its power, and isn't armed.
func TestNew(t *testing.T) {
	p := platter.New()
	if p == nil {
		t.Fatal("P17.1: New: nil")
	}
	is(t, "P17.1: New", p, state{})
	isArmed(t, "P17.1: New", p, 0)
	for range 1000 {
		mustBe(t, "P17.1: a platter that isn't armed", p.Append(0, []byte("a")), api.OK)
	}
	is(t, "P17.1: the first one", p, state{parts: [2]part{{data: strings.Repeat("a", 1000)}}})
	is(t, "P17.1: another new one", platter.New(), state{})
}

// P17.1: of a nil platter every change is ErrNil, whatever else is wrong.
func TestNilRefused(t *testing.T) {
	var p *platter.Platter
	for _, s := range steps() {
		mustBe(t, "P17.1: nil: "+s.name, s.do(p), api.ErrNil)
	}
	for _, area := range noAreas() {
		for _, s := range strays(area) {
			mustBe(t, "P17.1: nil: "+s.name, s.do(p), api.ErrNil)
		}
	}
}

// refused: the change must have this answer, and change nothing, neither what the platter tells nor in which change the power goes.
func refused(t *testing.T, p *platter.Platter, s step, want api.Errno) {
	t.Helper()
	before, n := tell(p), armed(p)
	for range 3 {
		mustBe(t, "P17.1: "+s.name, s.do(p), want)
	}
	is(t, "P17.1: behind "+s.name+", refused", p, before)
	isArmed(t, "P17.1: behind "+s.name+", refused", p, n)
}

// P17.1: of an area that there isn't every change is ErrArg, also while the power is gone.
func TestNoArea(t *testing.T) {
	for _, x := range many() {
		up, first, down := made(t, x), made(t, x), made(t, gone(x))
		first.Arm(1)
		for _, area := range noAreas() {
			for _, s := range strays(area) {
				refused(t, up, s, api.ErrArg)
				refused(t, first, s, api.ErrArg)
				refused(t, down, s, api.ErrArg)
			}
		}
	}
}

// P17.1: while the power is gone every change is ErrDown, also a Wipe and a Flip that would be ErrState.
func TestGoneRefused(t *testing.T) {
	for _, x := range many() {
		p := made(t, gone(x))
		for _, s := range steps() {
			refused(t, p, s, api.ErrDown)
		}
	}
}

// P17.1: Wipe of the live area alone is ErrState, Flip just if the other area has bytes that aren't synced.
func TestStateRefused(t *testing.T) {
	for _, x := range many() {
		for calls := range 3 {
			p := made(t, x)
			p.Arm(calls)
			refused(t, p, wipes(x.live), api.ErrState)
			other := x.parts[1-x.live]
			if other.synced < len(other.data) {
				refused(t, p, flips(), api.ErrState)
			}
		}
		p := made(t, x)
		mustBe(t, "P17.1: Sync", p.Sync(1-x.live), api.OK)
		mustBe(t, "P17.1: Flip to synced bytes", p.Flip(), api.OK)
		refused(t, p, wipes(1-x.live), api.ErrState)
		if own := x.parts[x.live]; own.synced < len(own.data) {
			refused(t, p, flips(), api.ErrState)
		}
		mustBe(t, "P17.1: Wipe of the area that was live", p.Wipe(x.live), api.OK)
		mustBe(t, "P17.1: Flip to no bytes", p.Flip(), api.OK)
	}
}

// P17.1: one byte that isn't synced is enough for ErrState; one Append of none isn't.
func TestFlipByOneByte(t *testing.T) {
	p := platter.New()
	for _, data := range []string{"", "a", text(1000)} {
		p.Append(1, []byte(data))
		p.Sync(1)
		p.Append(1, nil)
		mustBe(t, "P17.1: all is synced", p.Clone().Flip(), api.OK)
		p.Append(1, []byte{0})
		refused(t, p, flips(), api.ErrState)
		p.Cut()
		mustBe(t, "P17.1: what was not synced is gone", p.Clone().Flip(), api.OK)
	}
}

// P17.1: what is refused is no change that Arm counts, whatever it is refused for.
func TestRefusedIsNotCounted(t *testing.T) {
	for n := 1; n < 6; n++ {
		p := made(t, state{parts: [2]part{{"ab", 1}, {"cd", 1}}})
		p.Arm(n)
		for range n - 1 {
			for _, s := range append(strays(-1), strays(2)...) {
				mustBe(t, "P17.1: "+s.name, s.do(p), api.ErrArg)
			}
			mustBe(t, "P17.1: Wipe", p.Wipe(0), api.ErrState)
			mustBe(t, "P17.1: Flip", p.Flip(), api.ErrState)
			mustBe(t, "P17.4: a change ahead of the power's", p.Append(0, nil), api.OK)
		}
		isArmed(t, "P17.1: behind refused ones", p, 1)
		mustBe(t, "P17.4: the change of the number", p.Sync(1), api.ErrDown)
		is(t, "P17.4", p, state{down: true, parts: [2]part{{"ab", 1}, {"cd", 1}}})
	}
}
