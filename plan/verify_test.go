package plan

import (
	"slices"
	"testing"

	"railpoint/api"
)

// flip adds a rule to a switch that no packet meets, and takes it away again, Round by Round.
func flip(n int) []api.Round {
	return slices.Repeat(rounds(api.Round{add(3, "1 0000 drop")}, api.Round{take(3, "1 0000 drop")}), n/2+1)[:n]
}

func TestVerify(t *testing.T) {
	a, b := detour()
	w := wishes(reach("ann", "cy"), loops())
	one, two := turn(1, "out 1", "out 2"), turn(2, "out 2", "out 4")
	for _, l := range [][]api.Round{
		{one, two}, {{}, one, {}, {}, two, nil}, {one[:0], one, two},
		// A new rule ahead of the old one, which goes later on, and is put back in its place in between.
		{{add(1, "20 **** out 2")}, one, {take(1, "20 **** out 2")}, two},
		{{add(1, "20 1*** out 2"), add(1, "20 0*** out 2")}, append(slices.Clone(one), two[0]), {two[1], take(1, "20 1*** out 2")}, {take(1, "20 0*** out 2")}},
		// Ops of a switch that does not differ, alone, and among others.
		{{add(3, "5 **** drop")}, one, two, {take(3, "5 **** drop")}},
		{append(slices.Clone(one), add(3, "50 **** out 4")), append(api.Round{take(3, "50 **** out 4")}, two...)},
		{one, turn(2, "out 2", "out 1"), turn(2, "out 1", "out 4")},
		// There and back within a Round, so that its switch does not change, whatever was between.
		{append(append(slices.Clone(two), turn(2, "out 4", "out 2")...), one...), two},
		{{one[0], two[0], two[1], one[1], take(2, "10 **** out 4"), add(2, "10 **** out 2")}, two},
	} {
		verifyIs(t, a, b, w, l, len(l), api.OK)
		verifyIs(t, a, b, nil, l, len(l), api.OK)
	}
	verifyIs(t, a, b, nil, rounds(append(slices.Clone(one), two...)), 1, api.OK)
	verifyIs(t, a, b, nil, rounds(two, one), 2, api.OK)
	verifyIs(t, a, b, nil, rounds(append(slices.Clone(two), one...)), 1, api.OK)
	for _, l := range [][]api.Round{nil, {}, {nil}, {{}, {}}} {
		verifyIs(t, a, a, w, l, len(l), api.OK)
	}
}

// TestVerifyOrderOfRules: it is the same net though its rules stand otherwise behind the Rounds.
func TestVerifyOrderOfRules(t *testing.T) {
	a, b := detour()
	a.Tables[1], b.Tables[1] = tab("10 **** out 2", "20 1*** out 2"), tab("20 1*** out 2", "10 **** out 2")
	b.Tables[0] = a.Tables[0]
	verifyIs(t, a, b, wishes(reach("ann", "cy")), nil, 0, api.OK)
	verifyIs(t, a, b, wishes(reach("ann", "cy")), rounds(api.Round{take(2, "20 1*** out 2")}, api.Round{add(2, "20 1*** out 2")}), 2, api.OK)
}

// TestVerifyTooManyRounds: at 20 there is room yet, whatever is in them.
func TestVerifyTooManyRounds(t *testing.T) {
	a, b := detour()
	w := wishes(reach("ann", "cy"))
	for n := 0; n <= 20; n += 2 {
		verifyIs(t, a, a, w, flip(n), n, api.OK)
		verifyIs(t, a, a, w, make([]api.Round, n), n, api.OK)
	}
	verifyIs(t, a, b, w, append(flip(18), inSets(a, b, []int{1}, []int{2})...), 20, api.OK)
	verifyIs(t, a, b, w, flip(20), 20, api.ErrState)
	for _, n := range []int{21, 22, 40, 5000} {
		verifyIs(t, a, a, w, flip(n), 0, api.ErrFull)
		verifyIs(t, a, b, w, make([]api.Round, n), 0, api.ErrFull)
		// It is told ahead of what does not hold, of what is wrong with a Round, and of what is not the same.
		verifyIs(t, a, b, wishes(apart("ann", "cy")), flip(n), 0, api.ErrFull)
		verifyIs(t, a, b, w, slices.Repeat(rounds(api.Round{{Switch: 9}}), n), 0, api.ErrFull)
	}
	verifyIs(t, a, b, w, append(flip(18), inSets(a, b, []int{1}, []int{2}, nil)...), 0, api.ErrFull)
}

// TestVerifyNotInTheFirstNet: with 0 then, whatever the Rounds are, and without any.
func TestVerifyNotInTheFirstNet(t *testing.T) {
	a, b := detour()
	for _, w := range [][]api.Wish{{apart("ann", "cy")}, {reach("bob", "bob")}, {reach("ann", "cy"), loops(), way("ann", "cy", 1), reach("ann", "bob")}} {
		for _, l := range [][]api.Round{nil, {}, inSets(a, b, []int{1}, []int{2}), {{{Switch: 9}}}, {{}, {take(1, "99 **** drop")}}, flip(20)} {
			verifyIs(t, a, b, w, l, 0, api.ErrBroken)
			verifyIs(t, a, a, w, l, 0, api.ErrBroken)
		}
	}
}

// faults has Rounds that can't be done, or that are not safe, where 1 and 2 of detour have both changed.
func faults() map[api.Errno][]api.Round {
	both := api.Round{add(3, "20 **** drop"), take(3, "20 **** drop")}
	return map[api.Errno][]api.Round{
		api.ErrRange: {{{}}, {{Switch: -1}}, {{Switch: 4}}, {{Switch: 1, Rule: api.Rule{Prio: 100}}}, {add(1, "20 1*** drop"), {Switch: 4, Rule: api.Rule{Value: 1}}}},
		api.ErrShape: {{{Switch: 1, Rule: api.Rule{Value: 1}}}, {{Switch: 3, Add: true, Rule: api.Rule{Set: 1}}}},
		api.ErrClash: {{add(3, "10 **** drop")}, {add(1, "10 **** out 2")}, {add(2, "20 **** drop"), add(2, "20 **** out 1"), {}}},
		api.ErrNone:  {{take(3, "10 **** out 3")}, {take(1, "10 **** out 1")}, {take(2, "20 **** out 2"), {}}},
		api.ErrFull:  {slices.Repeat(both, 101), slices.Repeat(api.Round{{}}, 201), slices.Repeat(both, 2000)},
		// The last one only while it is done, if 1 is ahead of 2.
		api.ErrBroken: {{take(1, "10 **** out 2")}, {add(3, "20 1111 drop")}, turn(3, "out 4", "out 1"),
			{add(1, "20 **** out 1"), add(2, "20 **** out 2")}},
	}
}

// TestVerifyAWrongRound: the first one, a later one, and the last one; it is told, however many were right.
func TestVerifyAWrongRound(t *testing.T) {
	a, b := detour()
	w := wishes(loops(), reach("ann", "cy"))
	right := inSets(a, b, []int{1}, []int{2})
	for fault, all := range faults() {
		for _, r := range all {
			for ahead := range 21 - len(right) - 1 {
				l := append(append(slices.Clone(right), make([]api.Round, ahead)...), r)
				verifyIs(t, a, b, w, l, ahead+2, fault)
			}
			verifyIs(t, b, b, w, rounds(r), 0, fault)
			verifyIs(t, b, a, w, rounds(r, r), 0, fault)
			// The first that is wrong is told, not one behind it.
			for _, others := range faults() {
				for _, x := range others {
					verifyIs(t, a, b, w, append(slices.Clone(right), nil, r, x, nil), 3, fault)
				}
			}
		}
	}
}

// TestVerifyWhatCanBeDoneIsAskedFirst: of one Round, ahead of the wishes.
func TestVerifyWhatCanBeDoneIsAskedFirst(t *testing.T) {
	a, b := detour()
	w := wishes(reach("ann", "cy"))
	for _, c := range []struct {
		last  api.Op
		fault api.Errno
	}{{api.Op{Switch: 4}, api.ErrRange}, {take(1, "99 **** drop"), api.ErrNone}, {add(3, "10 **** drop"), api.ErrClash}} {
		verifyIs(t, a, b, w, rounds(append(turn(2, "out 2", "drop"), c.last)), 0, c.fault)
		verifyIs(t, a, b, w, rounds(turn(1, "out 1", "out 2"), append(turn(1, "out 2", "drop"), c.last)), 1, c.fault)
	}
}

// TestVerifyOnlyWhileItIsDone: ahead of the Round and behind it each wish holds.
func TestVerifyOnlyWhileItIsDone(t *testing.T) {
	a, b := detour()
	both := inSets(a, b, []int{1, 2})
	verifyIs(t, a, b, wishes(reach("ann", "cy")), both, 0, api.ErrBroken)
	verifyIs(t, a, b, wishes(loops(), apart("ann", "bob")), both, 0, api.ErrBroken)
	verifyIs(t, a, b, wishes(loops(), way("ann", "cy", 1), apart("cy", "bob")), both, 1, api.OK)
	verifyIs(t, a, b, wishes(reach("ann", "cy")), append(flip(4), both...), 4, api.ErrBroken)
	verifyIs(t, a, a, wishes(reach("ann", "cy")), append(both, inSets(b, a, []int{1, 2})...), 0, api.ErrBroken)
	verifyIs(t, a, a, wishes(reach("ann", "cy")), append(inSets(a, b, []int{1}, []int{2}), inSets(b, a, []int{1, 2})...), 2, api.ErrBroken)
	// There and back, one after the other.
	verifyIs(t, a, a, wishes(reach("ann", "cy")), append(inSets(a, b, []int{1}, []int{2}), inSets(b, a, []int{2}, []int{1})...), 4, api.OK)
}

// TestVerifyAnotherNet: behind all it is not what was wanted; how many there are is told.
func TestVerifyAnotherNet(t *testing.T) {
	a, b := detour()
	w := wishes(reach("ann", "cy"))
	right := inSets(a, b, []int{1}, []int{2})
	for _, l := range [][]api.Round{
		nil, {}, {nil}, right[:1], flip(20), flip(19),
		append(slices.Clone(right), api.Round{add(3, "20 **** out 4")}),
		append(slices.Clone(right), api.Round{add(1, "5 **** out 2")}, nil),
		append(slices.Clone(right), turn(2, "out 4", "out 3")),
		append(slices.Clone(right), turn(2, "out 4", "out 2")),
		{right[0], right[1][:1]}, {right[0], {right[1][0], add(2, "11 **** out 4")}},
	} {
		verifyIs(t, a, b, w, l, len(l), api.ErrState)
	}
	verifyIs(t, a, a, w, right, 2, api.ErrState)
	verifyIs(t, a, a, w, flip(1), 1, api.ErrState)
	// Packets go as they are to, but it is not the same.
	c := b
	c.Tables = []api.Table{tab("10 **** out 2"), tab("10 1*** out 4", "10 0*** out 4"), tab("10 **** out 4")}
	verifyIs(t, a, c, w, right, 2, api.ErrState)
}

// TestVerifyRoundsOfSets: by which sets of switches they have, each Round is told to be right, or not.
func TestVerifyRoundsOfSets(t *testing.T) {
	a, b := judged(3, []int{1, 2}, []int{4, 5}, []int{1, 4, 5})
	w := wishes(reach("ann", "bob"))
	for _, c := range []struct {
		sets  [][]int
		want  int
		fault api.Errno
	}{
		{[][]int{{1, 2, 4, 5}}, 0, api.ErrBroken},
		{[][]int{{1, 4}, {2}, {5}}, 3, api.OK},
		{[][]int{{1, 4}, {2, 5}}, 1, api.ErrBroken},
		{[][]int{{2, 5}, {4, 1}}, 2, api.OK},
		{[][]int{{5}, {2}, {1}, {4}}, 4, api.OK},
		{[][]int{{5}, {4}, {1}, {2}}, 1, api.ErrBroken},
		{[][]int{{2}, {1, 5}, {4}}, 1, api.ErrBroken},
		{[][]int{{1}, {1}}, 1, api.ErrNone},
		{[][]int{{1}, {4}, {2}, {4, 5}}, 3, api.ErrNone},
		{[][]int{{1}, {4}, {2}}, 3, api.ErrState},
		{[][]int{{1}, {3}, {4}, {2}, {3}, {5}}, 6, api.OK},
	} {
		verifyIs(t, a, b, w, inSets(a, b, c.sets...), c.want, c.fault)
	}
}
