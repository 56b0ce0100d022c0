package view_test

import (
	"fmt"
	"math"
	"math/bits"
	"slices"
	"testing"

	"veneer/api"
	"veneer/view"
)

// reached: what most have reached, by the chapter's words: a number of the acks that more than half of them are at, or above, and that no greater one is.
func reached(acks []int64) int64 {
	var most []int64
	for _, n := range acks {
		count := 0
		for _, other := range acks {
			if other >= n {
				count++
			}
		}
		if count > len(acks)-count {
			most = append(most, n)
		}
	}
	if len(most) == 0 {
		return 0
	}
	return slices.Max(most)
}

// reach: Reached must answer this, and so must the chapter's words, once more.
func reach(t *testing.T, what string, acks []int64, want int64) {
	t.Helper()
	mustBe(t, fmt.Sprintf("P19.4: %s: Reached(%v)", what, acks), view.Reached(acks), want)
	mustBe(t, fmt.Sprintf("the chapter's words, once more: %s: %v", what, acks), reached(acks), want)
}

// P19.4: none, one, even and odd many, like ones, ones below 0.
func TestReachedExamples(t *testing.T) {
	reach(t, "none", nil, 0)
	reach(t, "none, but a list", []int64{}, 0)
	reach(t, "the chapter's", []int64{5, 9, 7}, 7)
	reach(t, "the chapter's", []int64{5, 9}, 5)
	reach(t, "four", []int64{8, 2, 6, 4}, 4)
	reach(t, "five", []int64{8, 2, 6, 4, 0}, 4)
	reach(t, "six", []int64{8, 2, 6, 4, 0, 10}, 4)
	reach(t, "seven", []int64{8, 2, 6, 4, 0, 10, 12}, 6)
	reach(t, "like ones", []int64{3, 3, 3}, 3)
	reach(t, "like ones, just enough", []int64{9, 0, 9, 0, 9}, 9)
	reach(t, "like ones, one too few", []int64{9, 0, 9, 0}, 0)
	reach(t, "below 0", []int64{-4, -2, -3}, -3)
	reach(t, "below 0, and above", []int64{-4, 2}, -4)
	reach(t, "its own alone", []int64{0, 40, 0, 0, 0}, 0)
}

// P19.4: one ack is what is reached, any number.
func TestReachedByOne(t *testing.T) {
	for _, n := range []int64{math.MinInt64, -api.Greatest, -1 << 32, -1, 0, 1, 1 << 32, 1<<32 + 1, api.Greatest, 1 << 62, math.MaxInt64} {
		for count := 1; count < 9; count++ {
			reach(t, "one, or like ones", slices.Repeat([]int64{n}, count), n)
		}
	}
}

// P19.4: all lists of a few numbers, in each order, against the chapter's words.
func TestReachedByFew(t *testing.T) {
	for _, r := range []struct {
		few  []int64
		most int
	}{
		{[]int64{-1, 0, 1}, 8},
		{[]int64{2, 3, 5, 7, 11}, 6},
		{[]int64{math.MinInt64, -1, 0, api.Greatest, math.MaxInt64}, 5},
	} {
		for count := range r.most + 1 {
			lists(r.few, count, func(acks []int64) {
				mustBe(t, fmt.Sprintf("P19.4: Reached(%v)", acks), view.Reached(acks), reached(acks))
			})
		}
	}
}

// P19.4: many unlike acks, rising, falling, and in an order of their own.
func TestReachedByMany(t *testing.T) {
	counts := []int{1000, 1001, 4096}
	for count := range 200 {
		counts = append(counts, count+1)
	}
	for _, count := range counts {
		want := int64(count - count/2 - 1) // of 0 up to count less 1, one more than half are it or above
		var rising, mixed []int64
		for i := range count {
			rising = append(rising, int64(i))
			mixed = append(mixed, int64(i*211%count)) // 211 has no part in common with any count
		}
		reach(t, "rising", rising, want)
		slices.Reverse(rising)
		reach(t, "falling", rising, want)
		reach(t, "mixed", mixed, want)
	}
}

// P19.5: of so many nodes every two sets that have each a Quorum of them have one in common; of sets with one less some two have none.
func TestQuorumsMeet(t *testing.T) {
	for nodes := 1; nodes < 11; nodes++ {
		quorum, apart := view.Quorum(nodes), false
		for one := range uint(1) << nodes {
			for two := range uint(1) << nodes {
				least := min(bits.OnesCount(one), bits.OnesCount(two))
				if least >= quorum && one&two == 0 {
					t.Errorf("P19.5: of %d nodes the sets %b and %b have none in common", nodes, one, two)
				}
				if least == quorum-1 && one&two == 0 {
					apart = true
				}
			}
		}
		mustBe(t, fmt.Sprintf("P19.5: of %d nodes two sets of one less than a Quorum that have none in common", nodes), apart, true)
	}
}

// P19.5: whoever makes a Quorum, one of them has what is reached.
func TestQuorumHasWhatIsReached(t *testing.T) {
	lists([]int64{0, 1, 2, 3}, 5, func(acks []int64) {
		n := view.Reached(acks)
		for set := range uint(1) << len(acks) {
			has := false
			for i, ack := range acks {
				has = has || set>>i&1 == 1 && ack >= n
			}
			if bits.OnesCount(set) >= view.Quorum(len(acks)) && !has {
				t.Errorf("P19.5: of %v none in the set %b has %d", acks, set, n)
			}
		}
	})
}
