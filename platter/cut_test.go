package platter_test

import (
	"math"
	"slices"
	"testing"

	"veneer/api"
	"veneer/platter"
)

// keeps: how many bytes may be told to be kept, in all shapes: none, one, two and more numbers, below 0, few, many.
func keeps() [][]int {
	list := [][]int{nil, {}}
	numbers := []int{0, 1, 2, 3, 4, 5, 179, 180, 181, 1000, -1, -2, -1000, math.MinInt, math.MinInt + 1, math.MaxInt, math.MaxInt - 1, 1 << 32, 1<<32 + 1, -1 << 32}
	for _, one := range numbers {
		list = append(list, []int{one})
		for _, two := range numbers {
			list = append(list, []int{one, two})
		}
		list = append(list, []int{one, 1, 5}, []int{0, one, 5}, []int{1, 1, one, one, one}, []int{one, -1, one, 7, 8, 9, 10})
	}
	return list
}

// behindCut: what is left of an area, by the chapter's words.
func behindCut(x part, keep []int, area int) part {
	left := x.data[:x.synced]
	for more := 0; area < len(keep) && more < keep[area] && len(left) < len(x.data); more++ {
		left = x.data[:len(left)+1]
	}
	return part{left, len(left)}
}

// P17.5: each number of bytes to be kept, for synced and unsynced bytes in both areas, with the power there and gone.
func TestCut(t *testing.T) {
	for _, x := range many() {
		up, down := made(t, x), made(t, gone(x))
		for _, keep := range keeps() {
			want := state{live: x.live}
			for i := range want.parts {
				want.parts[i] = behindCut(x.parts[i], keep, i)
			}
			for _, p := range []*platter.Platter{up.Clone(), down.Clone()} {
				p.Cut(keep...)
				is(t, "P17.5: Cut("+show(keep)+")", p, want)
				p.Cut() // what stays is synced: another one takes nothing
				is(t, "P17.5: Cut again", p, want)
			}
		}
	}
}

// P17.5: some of it told by hand.
func TestCutByHand(t *testing.T) {
	x := state{live: 1, parts: [2]part{{"abcdef", 2}, {"uvwxyz", 4}}}
	for _, c := range []struct {
		keep     []int
		one, two string
	}{
		{nil, "ab", "uvwx"},
		{[]int{0}, "ab", "uvwx"},
		{[]int{1}, "abc", "uvwx"},
		{[]int{4}, "abcdef", "uvwx"},
		{[]int{5}, "abcdef", "uvwx"},
		{[]int{-3}, "ab", "uvwx"},
		{[]int{0, 1}, "ab", "uvwxy"},
		{[]int{-1, 2}, "ab", "uvwxyz"},
		{[]int{3, -1}, "abcde", "uvwx"},
		{[]int{2, 9}, "abcd", "uvwxyz"},
		{[]int{0, 0, 9}, "ab", "uvwx"},
		{[]int{1, 1, 1, 1}, "abc", "uvwxy"},
	} {
		p := made(t, x)
		p.Cut(c.keep...)
		is(t, "P17.5: Cut("+show(c.keep)+")", p, state{live: 1, parts: [2]part{{c.one, len(c.one)}, {c.two, len(c.two)}}})
	}
}

// P17.5: behind it the platter isn't armed, whether it was, and whether the power was gone.
func TestCutDisarms(t *testing.T) {
	for n := range 9 {
		for done := range max(n, 1) {
			p := made(t, ready())
			p.Arm(n)
			for range done {
				p.Sync(1)
			}
			p.Cut(9, 9)
			is(t, "P17.5: Cut of an armed one", p, state{parts: [2]part{{"abc", 3}, {"de", 2}}})
			isArmed(t, "P17.5: behind Cut", p, 0)
			for range 30 {
				mustBe(t, "P17.5: behind Cut", p.Sync(0), api.OK)
			}
			p.Arm(3)
			isArmed(t, "P17.5: armed behind Cut", p, 3)
		}
	}
}

// P17.5: the platter goes on: what comes then comes behind what stayed, and what was taken doesn't come back.
func TestGoesOnBehindCut(t *testing.T) {
	for _, x := range many() {
		for _, from := range []state{x, gone(x)} {
			p := made(t, from)
			p.Cut(2, 1)
			want := tell(p)
			for area := range 2 {
				mustBe(t, "P17.5: Append", p.Append(area, []byte("on")), api.OK)
				want.parts[area].data += "on"
				is(t, "P17.5: Append behind Cut", p, want)
			}
			p.Cut(1, 0)
			want.parts[0].data = want.parts[0].data[:len(want.parts[0].data)-1]
			want.parts[0].synced++
			want.parts[1].data = want.parts[1].data[:len(want.parts[1].data)-2]
			is(t, "P17.5: Cut once more", p, want)
			mustBe(t, "P17.5: Flip behind Cut", p.Flip(), api.OK)
			mustBe(t, "P17.5: Wipe behind Cut", p.Wipe(x.live), api.OK)
		}
	}
}

// P17.5: which area is live makes no odds: both are cut alike.
func TestCutOfAreasAlike(t *testing.T) {
	for live := range 2 {
		p := made(t, state{live: live, parts: [2]part{{"abcd", 2}, {"abcd", 2}}})
		p.Cut(1, 1)
		is(t, "P17.5: both areas", p, state{live: live, parts: [2]part{{"abc", 3}, {"abc", 3}}})
	}
}

// Rule 3: the numbers aren't changed, nor their spare room, and aren't kept.
func TestKeepIsLeftAlone(t *testing.T) {
	room := []int{1, -2, 1 << 40, -5, 9}
	for n := range room {
		keep := slices.Clone(room)
		p := made(t, ready())
		p.Cut(keep[:n]...)
		if !slices.Equal(keep, room) {
			t.Errorf("rule 3: Cut of %d numbers has changed them: %d", n, keep)
		}
		before := tell(p)
		clear(keep)
		is(t, "rule 3: written over behind Cut", p, before)
	}
}
