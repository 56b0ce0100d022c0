package view_test

import (
	"math"
	"testing"

	"veneer/api"
)

// mustBe: a call must have this answer.
func mustBe[T comparable](t *testing.T, what string, got, want T) {
	t.Helper()
	if got != want {
		t.Errorf("%s: %v; want %v", what, got, want)
	}
}

// row is a vote's Replica, Normal and Last.
type row [3]int64

// votes: those of such rows.
func votes(rows ...row) []api.Vote {
	var list []api.Vote
	for _, r := range rows {
		list = append(list, api.Vote{Replica: int(r[0]), Normal: r[1], Last: r[2]})
	}
	return list
}

// noViews: numbers that are no view's.
func noViews() []int64 {
	return []int64{-1, -2, -3, -256, -1 << 32, -1<<32 + 1, -1 << 40, -1 << 62, math.MinInt64, math.MinInt64 + 1}
}

// noNodes: numbers of which there can't be so many.
func noNodes() []int {
	return []int{0, -1, -2, -3, -256, -1 << 32, -1<<32 + 3, -1 << 40, math.MinInt, math.MinInt + 1}
}

// turns: who leads the views from 0 on, one after the other: each in its turn.
func turns(views, nodes int) []int {
	var list []int
	for len(list) < views {
		for id := range nodes {
			list = append(list, id)
		}
	}
	return list[:views]
}

// lists: calls do with each list of so many of these, in each order and with each as often as may be; the list is written over behind the call.
func lists[T any](of []T, count int, do func(list []T)) {
	list := make([]T, count)
	var fill func(at int)
	fill = func(at int) {
		if at == count {
			do(list)
			return
		}
		for _, v := range of {
			list[at] = v
			fill(at + 1)
		}
	}
	fill(0)
}
