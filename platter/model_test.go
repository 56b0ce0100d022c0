package platter_test

import (
	"math"
	"math/rand"
	"testing"

	"veneer/api"
	"veneer/platter"
)

// cell is a byte, and whether it lasts.
type cell struct {
	value byte
	lasts bool
}

// disk is a second platter, by the chapter's words: byte for byte, and the power goes by the number of all changes.
type disk struct {
	cells   [2][]cell
	flipped bool
	gone    bool
	changes int // how many there were
	last    int // the one in which the power goes, if it is above that
}

// state: what a platter would tell.
func (d *disk) state() state {
	s := state{down: d.gone}
	if d.flipped {
		s.live = 1
	}
	for i, cells := range d.cells {
		for _, c := range cells {
			s.parts[i].data += string([]byte{c.value})
			if c.lasts {
				s.parts[i].synced++
			}
		}
	}
	return s
}

// clone: one of its own.
func (d *disk) clone() *disk {
	other := *d
	for i := range other.cells {
		other.cells[i] = append([]cell(nil), d.cells[i]...)
	}
	return &other
}

// move is a call, with its arguments.
type move struct {
	call string
	area int
	data string
	keep []int
}

// refusal: what it is refused for.
func (d *disk) refusal(m move) api.Errno {
	if m.call != "Flip" && m.area != 0 && m.area != 1 {
		return api.ErrArg
	}
	if d.gone {
		return api.ErrDown
	}
	live := d.state().live
	if m.call == "Wipe" && m.area == live {
		return api.ErrState
	}
	if m.call == "Flip" {
		for _, c := range d.cells[1-live] {
			if !c.lasts {
				return api.ErrState
			}
		}
	}
	return api.OK
}

// do: what the chapter says of a call.
func (d *disk) do(m move) api.Errno {
	switch m.call {
	case "Arm":
		if !d.gone {
			d.last = 0
			if m.area >= 1 {
				d.last = d.changes + m.area
			}
		}
		return api.OK
	case "Cut":
		d.cut(m.keep)
		return api.OK
	}
	if e := d.refusal(m); e != api.OK {
		return e
	}
	d.changes++
	d.gone = d.changes == d.last
	if m.call == "Append" {
		for _, value := range []byte(m.data) {
			d.cells[m.area] = append(d.cells[m.area], cell{value: value})
		}
	}
	if d.gone {
		return api.ErrDown
	}
	switch m.call {
	case "Sync":
		for i := range d.cells[m.area] {
			d.cells[m.area][i].lasts = true
		}
	case "Wipe":
		d.cells[m.area] = nil
	case "Flip":
		d.flipped = !d.flipped
	}
	return api.OK
}

// cut: the power goes, and comes.
func (d *disk) cut(keep []int) {
	for i := range d.cells {
		more := 0
		if i < len(keep) {
			more = keep[i]
		}
		var left []cell
		for _, c := range d.cells[i] {
			if !c.lasts {
				if more <= 0 {
					break
				}
				more--
			}
			left = append(left, cell{c.value, true})
		}
		d.cells[i] = left
	}
	d.gone, d.last = false, 0
}

// play: the same call of a platter.
func play(p *platter.Platter, m move) api.Errno {
	switch m.call {
	case "Append":
		return p.Append(m.area, []byte(m.data))
	case "Sync":
		return p.Sync(m.area)
	case "Wipe":
		return p.Wipe(m.area)
	case "Flip":
		return p.Flip()
	case "Arm":
		p.Arm(m.area)
	case "Cut":
		p.Cut(m.keep...)
	}
	return api.OK
}

// pick: one of them.
func pick[T any](r *rand.Rand, list ...T) T { return list[r.Intn(len(list))] }

// drawnMove: mostly a change at an area that there is.
func drawnMove(r *rand.Rand) move {
	m := move{call: pick(r, "Append", "Append", "Append", "Sync", "Sync", "Wipe", "Wipe", "Flip", "Flip", "Arm", "Cut"), area: r.Intn(2)}
	switch m.call {
	case "Append":
		m.data = text(pick(r, 0, 1, 2, 3, r.Intn(40)))
	case "Arm":
		m.area = pick(r, 1, 2, 3, 5, 8, 8, 0, -1, math.MinInt, 1<<40)
		return m
	case "Cut":
		for range r.Intn(4) {
			m.keep = append(m.keep, pick(r, 0, 1, 2, r.Intn(50), -1, math.MaxInt, math.MinInt))
		}
	}
	if r.Intn(15) == 0 {
		m.area = pick(r, noAreas()...)
	}
	return m
}

// P17.1 to P17.6: drawn scripts, held against the second platter step by step; now and then the script goes on with a clone, while the old one goes another way.
func TestDrawnScripts(t *testing.T) {
	r := rand.New(rand.NewSource(171))
	met := map[api.Errno]int{}
	for range 1500 {
		p, d := platter.New(), &disk{}
		for step := range 60 {
			if r.Intn(12) == 0 {
				old := p
				p, d = p.Clone(), d.clone()
				for range 4 {
					play(old, drawnMove(r))
				}
			}
			m := drawnMove(r)
			got, want := play(p, m), d.do(m)
			met[want]++
			if got != want {
				t.Fatalf("P17.1: step %d, %+v: %d; want %d", step, m, got, want)
			}
			if told := tell(p); told != d.state() {
				t.Fatalf("P17.2: step %d, %+v: %s; want %s", step, m, show(told), show(d.state()))
			}
		}
	}
	for _, e := range []api.Errno{api.OK, api.ErrArg, api.ErrDown, api.ErrState} {
		if met[e] < 1000 {
			t.Errorf("P17.1: only %d drawn calls have the error %d", met[e], e)
		}
	}
}

// P17.1 to P17.6: all scripts of a few calls.
func TestAllShortScripts(t *testing.T) {
	moves := []move{
		{call: "Append", area: 0, data: "ab"}, {call: "Append", area: 1, data: "c"},
		{call: "Sync", area: 0}, {call: "Sync", area: 1},
		{call: "Wipe", area: 0}, {call: "Wipe", area: 1}, {call: "Flip"},
		{call: "Arm", area: 1}, {call: "Arm", area: 2}, {call: "Arm", area: 0},
		{call: "Cut"}, {call: "Cut", keep: []int{1}}, {call: "Cut", keep: []int{0, 1}},
	}
	var follow func(p *platter.Platter, d *disk, script []move)
	follow = func(p *platter.Platter, d *disk, script []move) {
		if len(script) == 5 || t.Failed() {
			return
		}
		for _, m := range moves {
			q, e := p.Clone(), d.clone()
			way := append(script[:len(script):len(script)], m)
			if got, want := play(q, m), e.do(m); got != want {
				t.Errorf("P17.1: %+v: %d; want %d", way, got, want)
			}
			if told := tell(q); told != e.state() {
				t.Errorf("P17.2: %+v: %s; want %s", way, show(told), show(e.state()))
			}
			follow(q, e, way)
		}
	}
	follow(platter.New(), &disk{}, nil)
}

// Rule 5: the same calls have the same answers, whatever became of other platters.
func TestSameAgain(t *testing.T) {
	r := rand.New(rand.NewSource(172))
	for range 200 {
		one, two, other := platter.New(), platter.New(), platter.New()
		for range 40 {
			m := drawnMove(r)
			e := play(one, m)
			play(other, drawnMove(r))
			mustBe(t, "rule 5", play(two, m), e)
			is(t, "rule 5", two, tell(one))
		}
	}
}
