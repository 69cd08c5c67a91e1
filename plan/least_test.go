package plan

import (
	"testing"

	"railpoint/api"
)

// TestLeastHasFewerThanPlan: Plan takes what it may into its first Round, and pays for it later on.
func TestLeastHasFewerThanPlan(t *testing.T) {
	w := wishes(reach("ann", "bob"))
	for _, c := range []struct {
		bad, plan, least [][]int // of the switches 1 to 4
	}{
		{[][]int{{1, 4}, {1, 2, 3}}, [][]int{{1, 2}, {4}, {3}}, [][]int{{2, 3, 4}, {1}}},
		{[][]int{{3}, {1, 2}, {1, 4}}, [][]int{{1}, {3}, {2, 4}}, [][]int{{2, 4}, {1, 3}}},
		{[][]int{{1}, {1, 3}, {2, 4}, {1, 2, 3}}, [][]int{{2, 3}, {4}, {1}}, [][]int{{3, 4}, {1, 2}}},
		{[][]int{{1}, {2, 3}, {2, 4}, {1, 2, 3}}, [][]int{{2}, {1}, {4}, {3}}, [][]int{{3, 4}, {1, 2}}},
		{[][]int{{2}, {1, 3}, {1, 4}, {1, 2, 4}}, [][]int{{1}, {2}, {3}, {4}}, [][]int{{3, 4}, {1, 2}}},
	} {
		a, b := judged(5, c.bad...)
		planIs(t, a, b, w, inSets(a, b, c.plan...), api.OK)
		leastAre(t, a, b, w, inSets(a, b, c.least...), api.OK)
	}
}

// TestLeastWherePlanIsStuck: what Plan took ahead leaves it nothing to go on with; another way leads on.
func TestLeastWherePlanIsStuck(t *testing.T) {
	w := wishes(reach("ann", "bob"))
	for _, c := range []struct{ bad, least [][]int }{
		{[][]int{{1, 2}, {1, 3}, {1, 4}}, [][]int{{2, 3, 4}, {1}}},
		{[][]int{{1, 2, 3}, {1, 2, 4}}, [][]int{{1, 3, 4}, {2}}},
		{[][]int{{3, 4}, {1, 2, 3}, {1, 2, 4}}, [][]int{{1, 3}, {4}, {2}}},
		{[][]int{{1}, {1, 2, 3}, {2, 3, 4}}, [][]int{{2, 4}, {1}, {3}}},
	} {
		a, b := judged(5, c.bad...)
		planIs(t, a, b, w, nil, api.ErrBroken)
		leastAre(t, a, b, w, inSets(a, b, c.least...), api.OK)
	}
}

// TestLeastFirstSet: of courses with as few Rounds the one is taken whose set has the least switch that is in just one of
// both: of the first Round, then of the next one. (Where Plan has as few its sets are the first ones.)
func TestLeastFirstSet(t *testing.T) {
	w := wishes(reach("ann", "bob"))
	for _, c := range []struct {
		bad, least [][]int
		others     [][][]int
	}{
		// A set is ahead of its parts, and who has 2 ahead of who has not.
		{[][]int{{1, 4}, {1, 2, 3}}, [][]int{{2, 3, 4}, {1}}, [][][]int{{{2, 4}, {1, 3}}, {{3, 4}, {1, 2}}}},
		// Who has 1 is ahead; if both have it, who has 3.
		{[][]int{{3, 4}, {1, 2, 3}, {1, 2, 4}}, [][]int{{1, 3}, {4}, {2}},
			[][][]int{{{1, 4}, {3}, {2}}, {{1}, {3, 4}, {2}}, {{2, 3}, {4}, {1}}, {{2}, {3, 4}, {1}}}},
		// The first Rounds are the same: the second ones tell.
		{[][]int{{2}, {3}, {1, 4}, {1, 2, 3}}, [][]int{{4}, {2, 3}, {1}}, [][][]int{{{4}, {2}, {1, 3}}, {{4}, {3}, {1, 2}}}},
		{[][]int{{2}, {4}, {1, 3}, {1, 4}, {1, 2, 3}}, [][]int{{3}, {2, 4}, {1}}, [][][]int{{{3}, {4}, {1, 2}}}},
	} {
		a, b := judged(5, c.bad...)
		leastAre(t, a, b, w, inSets(a, b, c.least...), api.OK)
		for _, sets := range c.others {
			verifyIs(t, a, b, w, inSets(a, b, sets...), len(c.least), api.OK)
		}
	}
	// Who has the least switch is ahead, though the other one has more.
	a, b := judgedByAll(5, []int{2, 3}, []int{1, 2, 3, 4}, []int{5}, []int{4, 5}, []int{1, 2, 4, 5})
	leastAre(t, a, b, w, inSets(a, b, []int{1, 2}, []int{3, 5}, []int{4}), api.OK)
	verifyIs(t, a, b, w, inSets(a, b, []int{1, 3, 4}, []int{5}, []int{2}), 3, api.OK)
}

// TestLeastByNumbers: it is the switches' numbers that count, not how many of them differ.
func TestLeastByNumbers(t *testing.T) {
	for judge := 1; judge <= 5; judge++ {
		row := others(judge)
		pick := func(places ...int) []int {
			var l []int
			for _, i := range places {
				l = append(l, row[i-1])
			}
			return l
		}
		a, b := judged(judge, pick(2), pick(1, 3), pick(1, 4), pick(1, 2, 4))
		w := wishes(reach("ann", "bob"))
		planIs(t, a, b, w, inSets(a, b, pick(1), pick(2), pick(3), pick(4)), api.OK)
		leastAre(t, a, b, w, inSets(a, b, pick(3, 4), pick(1, 2)), api.OK)
	}
}
