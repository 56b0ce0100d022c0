package platter_test

import (
	"fmt"
	"math"
	"strings"
	"testing"

	"veneer/api"
	"veneer/platter"
)

// part is an area's bytes, and how many of them are synced.
type part struct {
	data   string
	synced int
}

// state is all that a platter tells.
type state struct {
	live  int
	down  bool
	parts [2]part
}

// text: so many bytes, no ten of them alike.
func text(count int) string { return strings.Repeat("0123456789", count/10+1)[:count] }

// tell: what a platter tells.
func tell(p *platter.Platter) state {
	s := state{live: p.Live(), down: p.Down()}
	for i := range s.parts {
		s.parts[i] = part{string(p.Read(i)), p.Synced(i)}
	}
	return s
}

// show: the beginning of a value's text.
func show(v any) string { return fmt.Sprintf("%.160q", fmt.Sprintf("%+v", v)) }

// is: the platter must tell this.
func is(t *testing.T, what string, p *platter.Platter, want state) {
	t.Helper()
	if got := tell(p); got != want {
		t.Errorf("%s: %s; want %s", what, show(got), show(want))
	}
}

// mustBe: a call must have this answer.
func mustBe(t *testing.T, what string, got, want api.Errno) {
	t.Helper()
	if got != want {
		t.Errorf("%s: %d; want %d", what, got, want)
	}
}

// made: a platter that tells this.
func made(t *testing.T, want state) *platter.Platter {
	t.Helper()
	p := platter.New()
	for i, x := range want.parts {
		mustBe(t, "P17.2: Append", p.Append(i, []byte(x.data[:x.synced])), api.OK)
		mustBe(t, "P17.2: Sync", p.Sync(i), api.OK)
	}
	if want.live == 1 {
		mustBe(t, "P17.2: Flip", p.Flip(), api.OK)
	}
	for i, x := range want.parts {
		if want.down && i == 1 { // the last Append is that in which the power goes
			p.Arm(1)
			mustBe(t, "P17.4: Append", p.Append(i, []byte(x.data[x.synced:])), api.ErrDown)
			continue
		}
		mustBe(t, "P17.2: Append", p.Append(i, []byte(x.data[x.synced:])), api.OK)
	}
	is(t, "P17.2: a platter that was made", p, want)
	return p
}

// many: states of all kinds, with the power there.
func many() []state {
	parts := []part{{}, {"a", 0}, {"b", 1}, {"cdef", 0}, {"ghij", 1}, {"klmn", 3}, {"opqr", 4}, {text(300), 120}}
	var list []state
	for _, one := range parts {
		for _, two := range parts {
			for live := range 2 {
				list = append(list, state{live: live, parts: [2]part{one, two}})
			}
		}
	}
	return list
}

// gone: the same state without power.
func gone(s state) state {
	s.down = true
	return s
}

// noAreas: numbers that are no area's.
func noAreas() []int {
	return []int{-1, 2, -2, 3, 4, 255, 256, 257, 1 << 32, 1<<32 + 1, 1 << 62, 1<<62 + 1, math.MinInt, math.MinInt + 1, math.MaxInt, math.MaxInt - 1}
}

// step is a change, and what is told of it if a test fails.
type step struct {
	name string
	do   func(p *platter.Platter) api.Errno
}

// adds, syncs, wipes, flips: a change of each kind.
func adds(area int, data string) step {
	return step{fmt.Sprintf("Append(%d, %.9q)", area, data), func(p *platter.Platter) api.Errno { return p.Append(area, []byte(data)) }}
}
func syncs(area int) step {
	return step{fmt.Sprintf("Sync(%d)", area), func(p *platter.Platter) api.Errno { return p.Sync(area) }}
}
func wipes(area int) step {
	return step{fmt.Sprintf("Wipe(%d)", area), func(p *platter.Platter) api.Errno { return p.Wipe(area) }}
}
func flips() step { return step{"Flip", (*platter.Platter).Flip} }

// steps: those of all kinds, at the areas that there are.
func steps() []step {
	return []step{adds(0, "x"), adds(1, "yz"), adds(0, ""), adds(1, ""), syncs(0), syncs(1), wipes(0), wipes(1), flips()}
}

// strays: those at an area that there isn't.
func strays(area int) []step {
	return []step{adds(area, "x"), adds(area, ""), syncs(area), wipes(area)}
}

// armed: in how many changes the power goes; 0: not within the first 20. The platter itself isn't changed.
func armed(p *platter.Platter) int {
	other := p.Clone()
	for n := range 20 {
		if other.Append(0, nil) == api.ErrDown {
			return n + 1
		}
	}
	return 0
}

// isArmed: the power must go in the change of this number.
func isArmed(t *testing.T, what string, p *platter.Platter, want int) {
	t.Helper()
	if got := armed(p); got != want {
		t.Errorf("%s: the power goes in the change %d; want %d", what, got, want)
	}
}
