package view_test

import (
	"fmt"
	"math"
	"testing"

	"veneer/api"
	"veneer/view"
)

// leads: Primary must answer this.
func leads(t *testing.T, v int64, nodes, want int) {
	t.Helper()
	mustBe(t, fmt.Sprintf("P19.1: Primary(%d, %d)", v, nodes), view.Primary(v, nodes), want)
}

// P19.1: each leads in its turn, from view 0 on.
func TestPrimaryByTurns(t *testing.T) {
	for nodes := 1; nodes < 40; nodes++ {
		for v, id := range turns(200, nodes) {
			leads(t, int64(v), nodes, id)
		}
	}
}

// P19.1: views and numbers of nodes that are great.
func TestPrimaryGreat(t *testing.T) {
	leads(t, 7, 3, 1)
	leads(t, 1<<31, 3, 2)
	leads(t, 1<<32, 3, 1)
	leads(t, 1<<32+1, 3, 2)
	leads(t, api.Greatest, 3, 1)
	leads(t, api.Greatest, 5, 1)
	leads(t, api.Greatest, 7, 2)
	leads(t, api.Greatest-1, 1<<40, 1<<40-1)
	leads(t, api.Greatest, 1<<40, 0)
	leads(t, api.Greatest, 1<<40+1, 1<<40)
	leads(t, 5, 1<<32+3, 5)
	leads(t, 1<<32+8, 1<<32+3, 5)
	for _, r := range []struct{ nodes, want int }{
		{1, 0}, {2, 1}, {3, 1}, {5, 2}, {7, 0}, {10, 7}, {73, 0}, {100, 7}, {1 << 32, 1<<32 - 1}, {1 << 62, 1<<62 - 1}, {math.MaxInt - 1, 1}, {math.MaxInt, 0},
	} {
		leads(t, math.MaxInt64, r.nodes, r.want)
	}
	for _, v := range []int64{0, 1, 8, 1 << 40, 1 << 62, math.MaxInt64 - 1} {
		leads(t, v, math.MaxInt, int(v))
	}
}

// P19.1: of no view, or no nodes, there is none.
func TestPrimaryOfNone(t *testing.T) {
	for _, nodes := range append(noNodes(), 1, 2, 3, 7, 1<<40, math.MaxInt) {
		for _, v := range noViews() {
			leads(t, v, nodes, -1)
		}
	}
	for _, v := range append(noViews(), 0, 1, 7, api.Greatest, math.MaxInt64) {
		for _, nodes := range noNodes() {
			leads(t, v, nodes, -1)
		}
	}
}

// P19.1: Quorum of the numbers of nodes that there may be, and of great ones.
func TestQuorum(t *testing.T) {
	for i, want := range []int{1, 2, 2, 3, 3, 4, 4, 5} {
		mustBe(t, fmt.Sprintf("P19.1: Quorum(%d)", i+1), view.Quorum(i+1), want)
	}
	for _, r := range []struct{ nodes, want int }{
		{99, 50}, {100, 51}, {1<<32 - 1, 1 << 31}, {1 << 32, 1<<31 + 1}, {1<<32 + 1, 1<<31 + 1}, {math.MaxInt - 2, 1<<62 - 1}, {math.MaxInt - 1, 1 << 62}, {math.MaxInt, 1 << 62},
	} {
		mustBe(t, fmt.Sprintf("P19.1: Quorum(%d)", r.nodes), view.Quorum(r.nodes), r.want)
	}
}

// P19.1: Quorum is more than half, and one less isn't.
func TestQuorumIsTheLeast(t *testing.T) {
	for nodes := 1; nodes < 3000; nodes++ {
		q := view.Quorum(nodes)
		if q+q <= nodes || q-1+q-1 > nodes {
			t.Errorf("P19.1: Quorum(%d): %d", nodes, q)
		}
	}
}

// P19.1: Quorum of no nodes.
func TestQuorumOfNone(t *testing.T) {
	for _, nodes := range noNodes() {
		mustBe(t, fmt.Sprintf("P19.1: Quorum(%d)", nodes), view.Quorum(nodes), 0)
	}
}

// P19.1: Wait of each replica that there may be, and of others.
func TestWait(t *testing.T) {
	for id, want := range [api.MaxReplica]int{8, 10, 12, 14, 16, 18, 20} {
		mustBe(t, fmt.Sprintf("P19.1: Wait(%d)", id), view.Wait(id), want)
	}
	for _, id := range []int{-1, -2, -4, -8, -256, -1 << 32, -1<<32 + 1, math.MinInt, math.MinInt + 1, 7, 8, 9, 14, 256, 1 << 32, 1<<32 + 1, 1 << 62, 1<<62 + 1, math.MaxInt - 3, math.MaxInt} {
		mustBe(t, fmt.Sprintf("P19.1: Wait(%d)", id), view.Wait(id), 0)
	}
}
