package view_test

import (
	"fmt"
	"math"
	"testing"

	"veneer/api"
	"veneer/view"
)

// follows: Next must answer this.
func follows(t *testing.T, v int64, id, nodes int, want int64) {
	t.Helper()
	mustBe(t, fmt.Sprintf("P19.2: Next(%d, %d, %d)", v, id, nodes), view.Next(v, id, nodes), want)
}

// P19.2: the chapter's examples, and views at, just behind and just ahead of one that id leads.
func TestNextExamples(t *testing.T) {
	follows(t, 7, 1, 3, 10)
	follows(t, 7, 0, 3, 9)
	follows(t, 0, 0, 3, 3)
	follows(t, 0, 1, 3, 1)
	follows(t, 0, 2, 3, 2)
	follows(t, 11, 2, 5, 12)
	follows(t, 12, 2, 5, 17)
	follows(t, 13, 2, 5, 17)
	follows(t, 16, 2, 5, 17)
	follows(t, 0, 0, 1, 1)
	follows(t, 41, 0, 1, 42)
}

// P19.2: looked for, view by view, among those that each leads in its turn; of an id that has no turn there is none.
func TestNextByTurns(t *testing.T) {
	for nodes := 1; nodes < 12; nodes++ {
		order := turns(80, nodes)
		for v := range 60 {
			for id := -3; id < nodes+3; id++ {
				want := int64(-1)
				for later := len(order) - 1; later > v; later-- {
					if order[later] == id {
						want = int64(later)
					}
				}
				follows(t, int64(v), id, nodes, want)
			}
		}
	}
}

// P19.2: the last view of each id is at most Greatest: it is the next one of those ahead of it, and has none itself.
func TestNextAtGreatest(t *testing.T) {
	for nodes := 1; nodes < 12; nodes++ {
		round := int64(nodes)
		for back := range nodes {
			last := api.Greatest - int64(back)
			id := int(last % round)
			follows(t, last-round-1, id, nodes, last-round)
			for v := last - round; v < last; v++ {
				follows(t, v, id, nodes, last)
			}
			for v := last; v < api.Greatest+3*round; v++ {
				follows(t, v, id, nodes, -1)
			}
		}
	}
	follows(t, api.Greatest-1, 0, 1, api.Greatest)
	follows(t, api.Greatest, 0, 1, -1)
	follows(t, api.Greatest+1, 0, 1, -1)
}

// P19.2: so many nodes that few of them lead twice, if once, up to Greatest.
func TestNextOfMany(t *testing.T) {
	const most = 1 << 40
	follows(t, 0, 0, most-1, most-1)
	follows(t, 0, 0, most, most)
	follows(t, 0, 0, most+1, -1)
	follows(t, 1, 0, most, most)
	follows(t, 1, 1, most, -1)
	follows(t, 0, 1, most, 1)
	follows(t, 0, most-1, most, most-1)
	follows(t, 0, most, most+1, most)
	follows(t, most-1, most, most+1, most)
	follows(t, most, most, most+1, -1)
	follows(t, 0, most+1, most+2, -1)
	follows(t, 5, 5, 1<<32+3, 1<<32+8)
	follows(t, 5, 1<<32+1, 1<<32+3, 1<<32+1)
	for _, nodes := range []int{1 << 62, math.MaxInt - 1, math.MaxInt} {
		follows(t, 0, 1, nodes, 1)
		follows(t, 0, most, nodes, most)
		follows(t, most-1, most, nodes, most)
		follows(t, 0, most+1, nodes, -1)
		follows(t, 0, nodes-1, nodes, -1)
		follows(t, 0, 0, nodes, -1)
		follows(t, 9, 0, nodes, -1)
		follows(t, 9, 8, nodes, -1)
		follows(t, 9, 9, nodes, -1)
		follows(t, 9, 10, nodes, 10)
	}
}

// P19.2: views so great that the sum of them and a number of nodes wouldn't fit.
func TestNextOfGreatViews(t *testing.T) {
	for _, v := range []int64{api.Greatest + 1, 2 * api.Greatest, 1 << 62, math.MaxInt64 - 7, math.MaxInt64 - 2, math.MaxInt64 - 1, math.MaxInt64} {
		for _, nodes := range []int{1, 2, 3, 5, 7, 1 << 32, 1<<40 + 1, 1 << 62, math.MaxInt - 1, math.MaxInt} {
			for _, id := range []int{0, nodes / 2, nodes - 1, min(1, nodes-1), int(v % int64(nodes))} {
				follows(t, v, id, nodes, -1)
			}
		}
	}
}

// P19.2: no view, no id, no nodes.
func TestNextOfNone(t *testing.T) {
	for _, nodes := range []int{1, 2, 3, 7, 1 << 40, math.MaxInt} {
		for _, v := range noViews() {
			for _, id := range []int{0, nodes - 1, -1, nodes / 2} {
				follows(t, v, id, nodes, -1)
			}
		}
		for _, v := range []int64{0, 1, 2, 7, api.Greatest - 1, api.Greatest, math.MaxInt64} {
			for _, id := range []int{-1, -2, -7, -nodes, -1 << 32, -1<<32 + 1, math.MinInt, math.MinInt + 1, math.MaxInt} {
				follows(t, v, id, nodes, -1)
			}
			for _, past := range []int{0, 1, 2, nodes} {
				if past <= math.MaxInt-nodes {
					follows(t, v, nodes+past, nodes, -1)
				}
			}
		}
	}
	for _, nodes := range noNodes() {
		for _, v := range append(noViews(), 0, 1, 7, api.Greatest, math.MaxInt64) {
			for _, id := range []int{0, 1, 2, -1, nodes, -2, math.MaxInt, math.MinInt} {
				follows(t, v, id, nodes, -1)
			}
		}
	}
}
