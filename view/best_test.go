package view_test

import (
	"fmt"
	"math"
	"slices"
	"testing"

	"veneer/api"
	"veneer/view"
)

// best: the place of the best vote by the chapter's words: what isn't the greatest, or the least, goes, field by field; of what is left, the first.
func best(list []api.Vote) int {
	left := make([]int, len(list))
	for i := range left {
		left[i] = i
	}
	left = greatest(left, func(at int) int64 { return list[at].Normal })
	left = greatest(left, func(at int) int64 { return list[at].Last })
	left = greatest(left, func(at int) int64 { return ^int64(list[at].Replica) }) // falls as Replica rises, and always fits
	if len(left) == 0 {
		return -1
	}
	return left[0]
}

// greatest: those places that have the greatest number.
func greatest(places []int, number func(at int) int64) []int {
	var left []int
	for _, at := range places {
		beaten := slices.ContainsFunc(places, func(other int) bool { return number(other) > number(at) })
		if !beaten {
			left = append(left, at)
		}
	}
	return left
}

// isBest: Best must answer this place, and so must the chapter's words, once more.
func isBest(t *testing.T, what string, list []api.Vote, want int) {
	t.Helper()
	mustBe(t, fmt.Sprintf("P19.3: %s: Best(%v)", what, list), view.Best(list), want)
	mustBe(t, fmt.Sprintf("the chapter's words, once more: %s: %v", what, list), best(list), want)
}

// P19.3: none, one, and votes that differ in one field alone, in either order.
func TestBestExamples(t *testing.T) {
	isBest(t, "none", nil, -1)
	isBest(t, "none, but a list", []api.Vote{}, -1)
	isBest(t, "the chapter's", votes(row{0, 2, 5}, row{1, 3, 1}, row{2, 3, 4}), 2)
	isBest(t, "Normal alone", votes(row{1, 3, 4}, row{1, 2, 4}), 0)
	isBest(t, "Normal alone", votes(row{1, 2, 4}, row{1, 3, 4}), 1)
	isBest(t, "Last alone", votes(row{1, 3, 5}, row{1, 3, 4}), 0)
	isBest(t, "Last alone", votes(row{1, 3, 4}, row{1, 3, 5}), 1)
	isBest(t, "Replica alone", votes(row{1, 3, 4}, row{2, 3, 4}), 0)
	isBest(t, "Replica alone", votes(row{2, 3, 4}, row{1, 3, 4}), 1)
	isBest(t, "nothing", votes(row{1, 3, 4}, row{1, 3, 4}), 0)
	isBest(t, "nothing, behind another one", votes(row{0, 0, 0}, row{1, 3, 4}, row{1, 3, 4}, row{1, 3, 4}), 1)
	isBest(t, "Normal ahead of Last", votes(row{1, 2, 99}, row{6, 3, 0}), 1)
	isBest(t, "Last ahead of Replica", votes(row{0, 2, 4}, row{6, 2, 5}), 1)
	isBest(t, "zeros", make([]api.Vote, 9), 0)
}

// fields: numbers at and beside 0, great and small ones.
func fields() []int64 {
	return []int64{math.MinInt64, math.MinInt64 + 1, -1 << 40, -1 << 32, -2, -1, 0, 1, 2, 1 << 32, api.Greatest, math.MaxInt64 - 1, math.MaxInt64}
}

// P19.3: one vote is the best, whatever it says.
func TestBestOfOne(t *testing.T) {
	for _, normal := range fields() {
		for _, last := range fields() {
			for _, id := range fields() {
				isBest(t, "one", votes(row{id, normal, last}), 0)
			}
		}
	}
}

// P19.3: two votes whose one field, or two of them, are any, in either order.
func TestBestOfTwo(t *testing.T) {
	list := fields()
	for i, low := range list {
		for _, high := range list[i+1:] {
			for _, r := range []struct{ worse, better api.Vote }{
				{api.Vote{Normal: low}, api.Vote{Normal: high}},
				{api.Vote{Last: low}, api.Vote{Last: high}},
				{api.Vote{Replica: int(high)}, api.Vote{Replica: int(low)}},
				{api.Vote{Normal: low, Last: high}, api.Vote{Normal: high, Last: low}},
				{api.Vote{Normal: low, Replica: int(low)}, api.Vote{Normal: high, Replica: int(high)}},
				{api.Vote{Last: low, Replica: int(low)}, api.Vote{Last: high, Replica: int(high)}},
			} {
				isBest(t, "two", []api.Vote{r.worse, r.better}, 1)
				isBest(t, "two", []api.Vote{r.better, r.worse}, 0)
			}
		}
	}
}

// P19.3: all lists of a few votes, in each order, against the chapter's words.
func TestBestOfFew(t *testing.T) {
	for _, r := range []struct {
		few  []int64
		most int
	}{{[]int64{-1, 0, 1}, 3}, {[]int64{4, 9}, 5}} {
		var all []api.Vote
		lists(r.few, 3, func(f []int64) { all = append(all, api.Vote{Replica: int(f[0]), Normal: f[1], Last: f[2]}) })
		for count := range r.most + 1 {
			lists(all, count, func(list []api.Vote) {
				mustBe(t, fmt.Sprintf("P19.3: Best(%v)", list), view.Best(list), best(list))
			})
		}
	}
}

// P19.3: the place may be any one of many.
func TestBestPlace(t *testing.T) {
	for _, count := range []int{7, 8, 64, 300} {
		for at := range count {
			list := make([]api.Vote, count)
			for i := range list {
				list[i] = api.Vote{Replica: i, Normal: int64(i % 3), Last: int64(i % 5)}
			}
			list[at].Normal = 3
			isBest(t, "one of many", list, at)
			list[count-1] = list[at]
			isBest(t, "and its like at the end", list, at)
		}
	}
}
