package agent

import (
	"math"
	"slices"
	"testing"

	"railpoint/api"
	"railpoint/plain"
)

// far has numbers that are right for nothing, some of which are right ones once they are cut to a byte or a word.
func far() []int {
	return []int{math.MinInt, math.MinInt + 1, -1 << 32, -256, -255, -1, 256, 257, 258, 1 << 32, 1<<32 + 1, 1<<32 + 2, math.MaxInt}
}

func noAgent(t *testing.T, number int, l api.Table, want api.Errno) {
	t.Helper()
	if a, err := New(number, l); a != nil || plain.Told(err) != want {
		t.Errorf("New(%d, %v): %v, %v, want %v", number, l, a, err, want)
	}
}

// wrongTables has tables that are not right, with the fault of each.
func wrongTables() map[api.Errno][]api.Table {
	return map[api.Errno][]api.Table{
		api.ErrFull: {distinct(13), distinct(90), slices.Repeat(api.Table{of(100, 0, 0)}, 13)},
		api.ErrRange: {
			{of(100, 0, 0)}, {of(-1, 0, 0)}, {of(1, 16, 0)}, {of(1, 0, -1)}, {{Out: 5}}, {{Out: 1, Set: 16}},
			append(distinct(11), of(100, 0, 0)), {of(1, 0, 0), of(100, 0, 0), of(1, 0, 0)},
		},
		api.ErrShape: {{of(1, 0, 1)}, {{Set: 1}}, {{Out: 1, Value: 1}}, {of(1, 0, 1), of(100, 0, 0)}},
		api.ErrClash: {{{}, {}}, {of(1, 0, 0), {Prio: 1}}, append(distinct(11), of(0, 15, 0)), {{}, {}, of(100, 0, 0)}},
	}
}

func TestNewOfNoNumber(t *testing.T) {
	for _, number := range append(far(), 0, 7, 8, 255) {
		noAgent(t, number, nil, api.ErrRange)
		noAgent(t, number, distinct(12), api.ErrRange)
		// The number is told ahead of the table.
		for _, tables := range wrongTables() {
			for _, l := range tables {
				noAgent(t, number, l, api.ErrRange)
			}
		}
	}
}

func TestNewOfAWrongTable(t *testing.T) {
	for want, tables := range wrongTables() {
		for _, l := range tables {
			for number := 1; number <= 6; number++ {
				noAgent(t, number, l, want)
			}
		}
	}
}

// amid is switch 2 amid its work: the round 3 is done, 5 is ready, 7 waits for its op 1, of 9 is known just an op.
func amid(t *testing.T) *Agent {
	t.Helper()
	a := fresh(t, 2, distinct(2))
	hears(t, a, add(2, 3, 0, of(50, 0, 0)), ask(2, 3, 1))
	works(t, a, 2, 3)
	hears(t, a, add(2, 5, 0, of(51, 0, 0)), ask(2, 5, 1), add(2, 7, 0, of(52, 0, 0)), ask(2, 7, 2), add(2, 9, 0, of(53, 0, 0)))
	amidStands(t, a)
	return a
}

// amidStands asks that it is amid its work as it was.
func amidStands(t *testing.T, a *Agent) {
	t.Helper()
	stands(t, a, append(distinct(2), of(50, 0, 0)), map[int]int{3: 1, 5: 1, 7: 1, 9: 1}, 5, 3)
}

// goesOn asks that nothing was changed that a later call could tell: what is left comes out as it would have.
func goesOn(t *testing.T, a *Agent) {
	t.Helper()
	amidStands(t, a)
	works(t, a, 2, 5)
	hears(t, a, add(2, 7, 1, of(54, 0, 0)), ask(2, 9, 1))
	works(t, a, 2, 7, 9)
	saysYes(t, a, ask(2, 3, 1))
	want := append(distinct(2), of(50, 0, 0), of(51, 0, 0), of(52, 0, 0), of(54, 0, 0), of(53, 0, 0))
	stands(t, a, want, map[int]int{3: 1, 5: 1, 7: 2, 9: 1}, -1, 3, 5, 7, 9)
}

// isWrong has an agent hear a message that has a fault.
func isWrong(t *testing.T, a *Agent, m api.Msg, want api.Errno) {
	t.Helper()
	if got, err := a.Hear(m); got != nil || plain.Told(err) != want {
		t.Errorf("Hear(%v): %v, %v, want %v", m, got, err, want)
	}
	amidStands(t, a)
}

// rounds has messages of all kinds to a switch, of rounds that are done, ready, begun, and not yet heard of.
func rounds(to int) (out []api.Msg) {
	for _, round := range []int{3, 5, 7, 9, 11} {
		out = append(out, add(to, round, 1, of(60, 0, 0)), take(to, round, 0, of(60, 0, 0)), ask(to, round, 1), yes(to, round))
	}
	return out
}

func TestHearWrongNumbers(t *testing.T) {
	a := amid(t)
	for _, m := range rounds(2) {
		for _, n := range append(far(), 0, 4, 255) {
			bad := m
			bad.Kind = n
			isWrong(t, a, bad, api.ErrRange)
		}
		for _, n := range append(far(), 0, 7, 255) {
			bad := m
			bad.Switch = n
			isWrong(t, a, bad, api.ErrRange)
			bad.Op.Switch = n
			isWrong(t, a, bad, api.ErrRange)
		}
		for _, n := range append(far(), 20, 21, 255) {
			bad := m
			bad.Round = n
			isWrong(t, a, bad, api.ErrRange)
		}
		for _, n := range append(far(), 201, 255) {
			bad := m
			bad.Index = n
			isWrong(t, a, bad, api.ErrRange)
		}
	}
	isWrong(t, a, api.Msg{}, api.ErrRange)
	goesOn(t, a)
}

// TestHearWrongOps: also of a message for another switch, or of a Yes, of which the faults come behind.
func TestHearWrongOps(t *testing.T) {
	a := amid(t)
	for _, to := range []int{2, 1, 6} {
		for _, round := range []int{3, 5, 7, 9, 11} {
			isWrong(t, a, add(to, round, 1, of(100, 0, 0)), api.ErrRange)
			isWrong(t, a, take(to, round, 1, of(1, 0, 16)), api.ErrRange)
			isWrong(t, a, add(to, round, 1, of(1, 0, 1)), api.ErrShape)
			isWrong(t, a, take(to, round, 1, api.Rule{Set: 1}), api.ErrShape)
			of3 := add(to, round, 1, of(60, 0, 0))
			of3.Op.Switch = 3
			isWrong(t, a, of3, api.ErrShape)
			for _, m := range []api.Msg{ask(to, round, 1), yes(to, round)} {
				m.Op.Switch = to
				isWrong(t, a, m, api.ErrShape)
				m.Op = api.Op{Add: true}
				isWrong(t, a, m, api.ErrShape)
			}
			full := yes(to, round)
			full.Index = 1
			isWrong(t, a, full, api.ErrShape)
		}
	}
	goesOn(t, a)
}

// TestHearForAnotherSwitch: a Yes as well is not for it, ahead of being a Yes.
func TestHearForAnotherSwitch(t *testing.T) {
	a := amid(t)
	for _, to := range []int{1, 3, 4, 5, 6} {
		for _, m := range rounds(to) {
			isWrong(t, a, m, api.ErrNone)
		}
	}
	goesOn(t, a)
}

func TestHearAYes(t *testing.T) {
	a := amid(t)
	for round := range 20 {
		isWrong(t, a, yes(2, round), api.ErrState)
	}
	goesOn(t, a)
}

func TestHeardOfNone(t *testing.T) {
	a := amid(t)
	for _, round := range append(far(), 20, 21, 255, 10, 4, 6) {
		if got := a.Heard(round); got != 0 {
			t.Errorf("Heard(%d): %d, want 0", round, got)
		}
	}
	goesOn(t, a)
}

// TestWorkOfNone: nothing is changed by asking for it.
func TestWorkOfNone(t *testing.T) {
	a := fresh(t, 2, distinct(2))
	hears(t, a, add(2, 4, 0, of(50, 0, 0)), ask(2, 6, 1), ask(2, 4, 2))
	for range 3 {
		rests(t, a)
		stands(t, a, distinct(2), map[int]int{4: 1}, -1)
	}
	hears(t, a, add(2, 4, 1, of(51, 0, 0)), add(2, 6, 0, of(52, 0, 0)))
	works(t, a, 2, 4, 6)
	stands(t, a, append(distinct(2), of(50, 0, 0), of(51, 0, 0), of(52, 0, 0)), map[int]int{4: 2, 6: 1}, -1, 4, 6)
}
