package platter_test

import (
	"bytes"
	"slices"
	"testing"

	"veneer/api"
	"veneer/platter"
)

// P17.6: a clone tells the same, and the power goes in the same change of it.
func TestCloneIsTheSame(t *testing.T) {
	for _, x := range many() {
		for n := range 4 {
			p := made(t, x)
			p.Arm(n)
			c := p.Clone()
			if c == nil || c == p {
				t.Fatalf("P17.6: Clone: %p of %p", c, p)
			}
			is(t, "P17.6: a clone", c, x)
			isArmed(t, "P17.6: a clone", c, n)
		}
		c := made(t, gone(x)).Clone()
		is(t, "P17.6: a clone without power", c, gone(x))
		c.Cut()
		isArmed(t, "P17.6: a clone without power, behind Cut", c, 0)
	}
}

// P17.6: each change, Arm and Cut of one leaves the other one as it was, and both go on as the chapter says; armed or not, with power or without it.
func TestClonesGoOnApart(t *testing.T) {
	deeds := append(steps(), []step{
		{"Cut()", func(p *platter.Platter) api.Errno { p.Cut(); return api.OK }},
		{"Cut(1, 1)", func(p *platter.Platter) api.Errno { p.Cut(1, 1); return api.OK }},
		{"Arm(1)", func(p *platter.Platter) api.Errno { p.Arm(1); return api.OK }},
		{"Arm(0)", func(p *platter.Platter) api.Errno { p.Arm(0); return api.OK }},
	}...)
	for _, x := range many() {
		for n := range 3 {
			for _, one := range deeds {
				p := made(t, x)
				p.Arm(n)
				a, b := p.Clone(), p.Clone()
				one.do(a)
				is(t, "P17.6: behind a clone's "+one.name, p, x)
				isArmed(t, "P17.6: behind a clone's "+one.name, p, n)
				mustBe(t, "P17.6: "+one.name, one.do(p), one.do(b))
				is(t, "P17.6: of the same deed", p, tell(a))
				is(t, "P17.6: of the same deed", b, tell(a))
			}
		}
	}
}

// P17.6: the power of one goes, and comes; the other one's stays as it is.
func TestPowerApart(t *testing.T) {
	p := made(t, ready())
	p.Arm(1)
	c := p.Clone()
	mustBe(t, "P17.4: Append", p.Append(0, []byte("x")), api.ErrDown)
	is(t, "P17.6: the clone", c, ready())
	d := p.Clone()
	p.Cut()
	if p.Down() || !d.Down() {
		t.Errorf("P17.6: Down: %v, of the clone %v", p.Down(), d.Down())
	}
	mustBe(t, "P17.6: the clone's power goes, too", c.Flip(), api.ErrDown)
	mustBe(t, "P17.6: the power is there", p.Flip(), api.OK)
	d.Cut(9)
	is(t, "P17.6: the clone's bytes", d, state{parts: [2]part{{"abcx", 4}, {"de", 2}}})
}

// P17.6: whatever spare room there is behind an area's bytes, and whatever Cut left there, neither writes over the other one's.
func TestSpareRoomApart(t *testing.T) {
	for size := range 40 {
		for _, cut := range []bool{false, true} {
			p := platter.New()
			for area := range 2 {
				p.Append(area, []byte(text(size)))
				p.Sync(area)
				p.Append(area, []byte("what Cut takes"))
			}
			if cut {
				p.Cut()
			}
			c := p.Clone()
			d := c.Clone()
			before := tell(p)
			for _, x := range []struct {
				p    *platter.Platter
				data string
			}{{p, "PPP"}, {c, "cccc"}, {d, "d"}} {
				x.p.Cut()
				x.p.Append(0, []byte(x.data))
				x.p.Append(1, []byte(x.data))
			}
			for _, x := range []struct {
				p    *platter.Platter
				data string
			}{{p, "PPP"}, {c, "cccc"}, {d, "d"}} {
				want := before
				want.parts = [2]part{{text(size) + x.data, size}, {text(size) + x.data, size}}
				is(t, "P17.6: spare room", x.p, want)
			}
		}
	}
}

// scribble: all of it, the spare room too, is written over.
func scribble(b []byte) {
	b = b[:cap(b)]
	for i := range b {
		b[i] ^= 0xa5
	}
}

// P17.6: bytes that were handed in aren't changed, nor their spare room, and may be written over; also those of an Append that is refused, and of the one in which the power goes.
func TestHandedInIsNotKept(t *testing.T) {
	for _, size := range []int{0, 1, 2, 7, 64, 1000} {
		for calls := range 3 {
			for _, x := range many()[:40] {
				p := made(t, x)
				p.Arm(calls)
				room := []byte(text(size) + "what lies in the spare room")
				data := slices.Clone(room)
				for area := -1; area < 3; area++ {
					p.Append(area, data[:size])
				}
				if !bytes.Equal(data, room) {
					t.Errorf("rule 3: Append of %d bytes has changed them, or their spare room", size)
				}
				before := tell(p)
				scribble(data)
				is(t, "P17.6: written over behind Append", p, before)
			}
		}
	}
}

// P17.6: what Read answers is new memory: of the platter, of its clone, and of other answers.
func TestAnswersAreNew(t *testing.T) {
	for _, x := range many() {
		for _, p := range []*platter.Platter{made(t, x), made(t, gone(x))} {
			before := tell(p)
			c := p.Clone()
			for area := range 2 {
				one, two, three := p.Read(area), p.Read(area), c.Read(area)
				scribble(one)
				_ = append(one, "behind it"...)
				if string(two) != x.parts[area].data || string(three) != x.parts[area].data {
					t.Error("P17.6: two answers share memory")
				}
				scribble(two)
				scribble(three)
			}
			is(t, "P17.6: answers written over", p, before)
			is(t, "P17.6: answers written over", c, before)
			p.Cut(1, 1)
			c.Cut(1, 1)
			p.Append(0, []byte("more"))
			c.Append(0, []byte("more"))
			is(t, "P17.6: what was behind them", c, tell(p))
		}
	}
}

// P17.6: an answer stays as it is, whatever is done to the platter behind it.
func TestAnswersStay(t *testing.T) {
	for size := range 70 {
		p := made(t, state{parts: [2]part{{"", 0}, {text(size), size / 2}}})
		b := p.Read(1)
		p.Cut()
		p.Append(1, []byte("others, and many of them, too"))
		p.Wipe(1)
		p.Append(1, []byte("once more others"))
		if string(b) != text(size) {
			t.Errorf("P17.6: an answer of %d bytes is another one now", size)
		}
	}
}

// P17.6: a platter may be handed what it answered.
func TestOwnBytes(t *testing.T) {
	p := made(t, state{parts: [2]part{{"ab", 1}, {"c", 0}}})
	for range 3 {
		p.Append(0, p.Read(0))
		p.Append(1, p.Read(0))
	}
	want := "ababababababababab"[:16]
	is(t, "P17.2: its own bytes", p, state{parts: [2]part{{want, 1}, {"c" + want[:4] + want[:8] + want, 0}}})
}
