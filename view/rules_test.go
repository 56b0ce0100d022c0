package view_test

import (
	"slices"
	"testing"

	"veneer/api"
	"veneer/view"
)

// Rule 3: the votes, their order, and the spare room behind them stay as they are.
func TestBestChangesNothing(t *testing.T) {
	all := votes(row{2, 1, 9}, row{0, 3, 1}, row{1, 3, 4}, row{1, 3, 4}, row{0, 3, 4}, row{0, -1, 0}, row{5, 9, 9}, row{4, 9, 9})
	for to := range len(all) + 1 {
		room := slices.Clone(all)
		view.Best(room[:to])
		if !slices.Equal(room, all) {
			t.Errorf("rule 3: behind Best of %d votes: %v; want %v", to, room, all)
		}
	}
}

// Rule 3: so do the acks.
func TestReachedChangesNothing(t *testing.T) {
	all := []int64{9, -3, 7, 7, 0, 12, 1, 5, 2, 40, 3, 3, 8, 6, 4, 11, 10}
	for to := range len(all) + 1 {
		room := slices.Clone(all)
		view.Reached(room[:to])
		if !slices.Equal(room, all) {
			t.Errorf("rule 3: behind Reached of %d acks: %v; want %v", to, room, all)
		}
	}
}

// Rule 2: a list without elements is nil or empty, with room behind it or without.
func TestListsWithoutElements(t *testing.T) {
	for _, list := range [][]api.Vote{nil, {}, make([]api.Vote, 0, 8), make([]api.Vote, 3)[:0]} {
		mustBe(t, "P19.3: Best of none", view.Best(list), -1)
	}
	for _, acks := range [][]int64{nil, {}, make([]int64, 0, 8), make([]int64, 3)[:0]} {
		mustBe(t, "P19.4: Reached of none", view.Reached(acks), 0)
	}
}

// Rules 3 and 5: what was handed in isn't kept: written over, it is another one, and what was answered ahead of that counts for nothing.
func TestNothingIsKept(t *testing.T) {
	list, acks := votes(row{0, 1, 1}, row{1, 2, 2}), []int64{5, 6, 7}
	for range 3 {
		mustBe(t, "P19.3: Best", view.Best(list), 1)
		mustBe(t, "P19.4: Reached", view.Reached(acks), 6)
		list[0].Normal, acks[1] = 3, 9
		mustBe(t, "P19.3: Best, written over", view.Best(list), 0)
		mustBe(t, "P19.4: Reached, written over", view.Reached(acks), 7)
		list[0].Normal, acks[1] = 1, 6
	}
}
