package drive

import (
	"math"
	"slices"
	"testing"

	"railpoint/api"
	"railpoint/plain"
)

// far has numbers that are right for nothing, some of which are right ones once they are cut to a byte or a word.
func far() []int {
	return []int{math.MinInt, math.MinInt + 1, -1 << 32, -256, -255, -1, 256, 257, 258, 1 << 32, 1<<32 + 1, 1<<32 + 2, math.MaxInt}
}

func noDrive(t *testing.T, l []api.Round, wait int, want api.Errno) {
	t.Helper()
	if d, err := New(l, wait); d != nil || plain.Told(err) != want {
		t.Errorf("New(%v, %d): %v, %v, want %v", l, wait, d, err, want)
	}
}

// wrongOps has ops that are not right, with the fault of each.
func wrongOps() map[api.Errno][]api.Op {
	out := map[api.Errno][]api.Op{
		api.ErrRange: {
			{}, put(1, -1), put(6, 100), {Switch: 1, Rule: of(1, 16, 0)}, {Switch: 1, Rule: of(1, 0, -1)},
			{Switch: 2, Rule: api.Rule{Out: 5}}, {Switch: 2, Rule: api.Rule{Out: -1}}, {Switch: 2, Rule: api.Rule{Out: 1, Set: 16}},
			{Switch: 2, Rule: api.Rule{Out: 1, Set: 15, Value: 16}},
			// The switch is told ahead of the rule, and of it what is no number ahead of what does not go together.
			{Switch: 0, Rule: of(1, 0, 1)}, {Switch: 7, Rule: api.Rule{Set: 1}}, {Switch: 1, Rule: of(100, 0, 1)},
		},
		api.ErrShape: {
			{Switch: 1, Rule: of(1, 0, 1)}, {Switch: 6, Rule: of(99, 14, 15)},
			{Switch: 3, Rule: api.Rule{Set: 1}}, {Switch: 3, Rule: api.Rule{Out: 1, Value: 1}},
		},
	}
	for _, n := range append(far(), 0, 7, 8, 255) {
		out[api.ErrRange] = append(out[api.ErrRange], put(n, 1), take(n, 1))
	}
	return out
}

// wrongRounds has rounds of which New tells ErrFull, all of them with ops that are wrong, or without.
func wrongRounds() [][]api.Round {
	bad := api.Round{put(0, 1)}
	return [][]api.Round{
		many(21), many(90), make([]api.Round, 21), {puts(1, 201)}, {puts(1, 900)},
		append(many(19), puts(1, 201)), {puts(1, 200), puts(1, 201)},
		{slices.Concat(puts(1, 100), puts(2, 101))},
		// That there are too many is told ahead of what is wrong with one of them.
		{bad, puts(1, 201)}, append(rounds(bad), many(20)...), {slices.Repeat(bad, 201)}, slices.Repeat(rounds(bad), 21),
	}
}

func TestNewWrongWait(t *testing.T) {
	for _, wait := range append(far(), 0, 101, 102, 255) {
		noDrive(t, nil, wait, api.ErrRange)
		noDrive(t, many(3), wait, api.ErrRange)
		for _, l := range wrongRounds() {
			noDrive(t, l, wait, api.ErrRange)
		}
		noDrive(t, rounds(api.Round{{Switch: 1, Rule: of(1, 0, 1)}}), wait, api.ErrRange)
	}
}

func TestNewTooMany(t *testing.T) {
	for _, l := range wrongRounds() {
		noDrive(t, l, 1, api.ErrFull)
		noDrive(t, l, 100, api.ErrFull)
	}
}

// TestNewWrongOps: wherever the op stands.
func TestNewWrongOps(t *testing.T) {
	for want, ops := range wrongOps() {
		for _, o := range ops {
			noDrive(t, rounds(api.Round{o}), 1, want)
			noDrive(t, rounds(nil, three(), append(three(), o)), 1, want)
			noDrive(t, rounds(append(api.Round{o}, three()...), three()), 100, want)
			noDrive(t, append(many(19), append(puts(3, 199), o)), 100, want)
		}
	}
}

// TestNewTellsTheFirstOp: of several that are wrong, in one round, or in two.
func TestNewTellsTheFirstOp(t *testing.T) {
	ops := wrongOps()
	for want, first := range ops {
		for _, others := range ops {
			for _, a := range first {
				for _, b := range others {
					noDrive(t, rounds(api.Round{put(1, 1), a, b}), 5, want)
					noDrive(t, rounds(three(), api.Round{a}, api.Round{b}), 5, want)
				}
			}
		}
	}
}

// amid is a drive amid its rounds: the first is done, of the second one 2 and 6 are left, and it was said a tick ago.
func amid(t *testing.T) *Drive {
	t.Helper()
	d := fresh(t, 2, api.Round{put(1, 1)}, three(), api.Round{put(2, 1)})
	says(t, d, do(0, 0, put(1, 1)), ask(1, 0, 1))
	hears(t, d, 0, 1)
	says(t, d, toAll(1)...)
	hears(t, d, 1, 4)
	quiet(t, d, 1)
	return d
}

// goesOn asks that nothing was changed that a later call could tell: what is left comes as it would have.
func goesOn(t *testing.T, d *Drive) {
	t.Helper()
	stands(t, d, 2, false, 2, 6)
	ticks(t, d, slices.Concat(to2(1), to6(1))...)
	quiet(t, d, 1)
	hears(t, d, 1, 6)
	ticks(t, d, to2(1)...)
	hears(t, d, 1, 2)
	says(t, d, do(2, 0, put(2, 1)), ask(2, 2, 1))
	stands(t, d, 3, false, 2)
	hears(t, d, 2, 2)
	stands(t, d, 3, true)
}

// noYes has messages that are none, though their other numbers are those of a Yes that is waited for.
func noYes() []api.Msg {
	out := []api.Msg{{}, ask(2, 1, 0), ask(2, 1, 2), ask(6, 1, 200), do(1, 0, take(2, 20)), do(1, 0, put(6, 10))}
	for _, n := range append(far(), 0, 4, 255) {
		out = append(out, api.Msg{Kind: n, Switch: 2, Round: 1})
	}
	for _, n := range append(far(), 0, 7, 255) {
		out = append(out, yes(n, 1), ask(n, 1, 1))
	}
	for _, n := range append(far(), 20, 21, 255) {
		out = append(out, yes(2, n), ask(2, n, 1))
	}
	for _, n := range append(far(), 1, 2, 200, 201) {
		out = append(out, api.Msg{Kind: 3, Switch: 2, Round: 1, Index: n})
	}
	full := []api.Op{{Add: true}, {Switch: 2}, put(2, 1), {Rule: api.Rule{Prio: 1}}, {Rule: api.Rule{Cube: api.Cube{Bits: 1}}}}
	for _, o := range full {
		out = append(out, api.Msg{Kind: 3, Switch: 2, Round: 1, Op: o})
	}
	return out
}

func TestHearNoYes(t *testing.T) {
	d := amid(t)
	for _, m := range noYes() {
		deaf(t, d, m, api.ErrShape)
		stands(t, d, 2, false, 2, 6)
	}
	goesOn(t, d)
	// So it is as well where no Yes is waited for.
	for _, m := range noYes() {
		deaf(t, d, m, api.ErrShape)
		deaf(t, fresh(t, 1), m, api.ErrShape)
		deaf(t, fresh(t, 1, three()), m, api.ErrShape)
	}
	stands(t, d, 3, true)
}

// TestHearOfAnotherRound: of one that was said before, or is to be said yet, or that there is not.
func TestHearOfAnotherRound(t *testing.T) {
	d := amid(t)
	for a := 1; a <= 6; a++ {
		for round := range 20 {
			if round != 1 {
				deaf(t, d, yes(a, round), api.ErrState)
				stands(t, d, 2, false, 2, 6)
			}
		}
	}
	goesOn(t, d)
}

// TestHearOfOneThatIsNotLeft: of a switch that the round has not, or that has answered.
func TestHearOfOneThatIsNotLeft(t *testing.T) {
	d := amid(t)
	for _, a := range []int{1, 3, 4, 5} {
		deaf(t, d, yes(a, 1), api.ErrState)
		stands(t, d, 2, false, 2, 6)
	}
	goesOn(t, d)
}

// TestHearAheadOfAll: nothing that comes ahead of the first round is an answer to it.
func TestHearAheadOfAll(t *testing.T) {
	d := fresh(t, 1, three(), three())
	for a := 1; a <= 6; a++ {
		for round := range 20 {
			deaf(t, d, yes(a, round), api.ErrState)
		}
	}
	stands(t, d, 0, false)
	says(t, d, toAll(0)...)
	stands(t, d, 1, false, 2, 4, 6)
}

// TestNextTooEarly: however often it is asked for.
func TestNextTooEarly(t *testing.T) {
	d := amid(t)
	for range 5 {
		noNext(t, d)
		stands(t, d, 2, false, 2, 6)
	}
	goesOn(t, d)
	for range 5 {
		noNext(t, d)
		stands(t, d, 3, true)
	}
}
