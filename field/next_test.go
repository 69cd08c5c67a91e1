package field

import (
	"slices"
	"testing"

	"railpoint/api"
)

// heard has a field with the round 0 of the switch 2 be where its Yes is the only message under way.
func heard(t *testing.T, f *Field) {
	t.Helper()
	does(t, f, deliver(0), deliver(0), deliver(0), work(2))
	underAre(t, f, yes(2, 0))
}

// TestNextBehindTheLastAnswer: at once, if no packet is under way.
func TestNextBehindTheLastAnswer(t *testing.T) {
	f := fresh(t, line(), 9, swap(), noOps(2), swap())
	does(t, f, deliver(0), deliver(0), deliver(0), deliver(0), deliver(0), work(1), work(3))
	does(t, f, send(1, 0), deliver(0), move(0))
	stands(t, f, 1, 1, 1, false)
	does(t, f, lose(0), move(0), move(0))
	stands(t, f, 0, 0, 1, false)
	for range 9 {
		does(t, f, tick())
	}
	underAre(t, f, to3(0)...)
	does(t, f, lose(0), deliver(0))
	underAre(t, f, yes(3, 0))
	does(t, f, deliver(0))
	underAre(t, f, do(1, 0, noOps(2)[0]), do(1, 1, noOps(2)[1]), ask(2, 1, 2))
	stands(t, f, 3, 0, 2, false)
	does(t, f, deliver(0), deliver(0), deliver(0), work(2))
	stands(t, f, 1, 0, 2, false)
	does(t, f, deliver(0))
	underAre(t, f, toBoth(2)...)
	stands(t, f, 5, 0, 3, false)
}

// TestNextComesBehindWhatIsUnderWay: it is said last of all.
func TestNextComesBehindWhatIsUnderWay(t *testing.T) {
	f := fresh(t, line(), 9, noOps(2), swap())
	does(t, f, twice(0), twice(2), deliver(0), deliver(0), deliver(0), work(2))
	does(t, f, deliver(2))
	underAre(t, f, slices.Concat([]api.Msg{do(0, 0, noOps(2)[0]), ask(2, 0, 2)}, toBoth(1))...)
}

// TestOldPacketsHoldTheNextRound: it is said behind the event by which the last of them ends, and that alone.
func TestOldPacketsHoldTheNextRound(t *testing.T) {
	f := fresh(t, line(), 1, noOps(2), swap())
	does(t, f, send(0, 0), send(0, 1))
	heard(t, f)
	does(t, f, deliver(0))
	for range 3 {
		stands(t, f, 0, 2, 1, false)
		does(t, f, tick())
		refuses(t, f, work(2), api.ErrState)
	}
	does(t, f, move(0), move(1), move(0), move(1), move(1))
	stands(t, f, 0, 1, 1, false)
	does(t, f, move(0))
	stands(t, f, 5, 0, 2, false)
	underAre(t, f, toBoth(1)...)
}

// TestPacketsSentAmidARound: one sent behind an answer, but ahead of the last one, is an old one.
func TestPacketsSentAmidARound(t *testing.T) {
	f := fresh(t, line(), 1, swap(), noOps(2))
	does(t, f, deliver(0), deliver(0), deliver(0), deliver(0), deliver(0), work(1), work(3), deliver(0), send(0, 0), deliver(0))
	stands(t, f, 0, 1, 1, false)
	does(t, f, move(0))
	stands(t, f, 3, 0, 2, false)
	endsAre(t, f, ended("ann", 1, "ann", hop(1, 4, 0)))
}

// TestYoungPacketsHoldNothing: neither those that are sent behind the last answer, nor those that have ended.
func TestYoungPacketsHoldNothing(t *testing.T) {
	f := fresh(t, line(), 1, noOps(2), swap(), noOps(2))
	does(t, f, send(0, 0), send(1, 1), move(1))
	heard(t, f)
	does(t, f, deliver(0), send(0, 2), send(2, 3), send(0, 4))
	stands(t, f, 0, 4, 1, false)
	does(t, f, move(1), move(1), move(2), move(0), move(0))
	stands(t, f, 0, 4, 1, false)
	does(t, f, move(0))
	stands(t, f, 5, 3, 2, false)
	// They are old ones by the next answers.
	does(t, f, deliver(0), deliver(0), deliver(0), deliver(0), deliver(0), work(1), work(3), deliver(0))
	stands(t, f, 1, 3, 2, false)
	does(t, f, deliver(0))
	stands(t, f, 0, 3, 2, false)
	does(t, f, send(0, 5))
	stands(t, f, 0, 4, 2, false)
	// By the new tables 3 sends back to 2: these two go round.
	does(t, f, move(0), move(0), move(1), move(0))
	stands(t, f, 0, 2, 2, false)
	does(t, f, move(0))
	stands(t, f, 3, 1, 3, false)
	endsAre(t, f, ended("bob", 1, "bob", hop(3, 4, 1)), ended("ann", 1, "bob", hop(1, 4, 0), hop(2, 1, 0), hop(3, 1, 0)),
		ended("ann", 4, "", hop(1, 4, 2), hop(2, 1, 2), hop(3, 1, 2), hop(2, 2, 2)),
		ended("ann", 1, "ann", hop(1, 4, 4)),
		ended("cid", 4, "", hop(2, 4, 3), hop(3, 1, 3), hop(2, 2, 3)))
}

// TestAYesThatComesAgainIsNoAnswer: packets that are sent ahead of it do not grow old by it.
func TestAYesThatComesAgainIsNoAnswer(t *testing.T) {
	f := fresh(t, line(), 1, noOps(2), swap())
	does(t, f, send(0, 0))
	heard(t, f)
	does(t, f, twice(0), deliver(0), send(0, 1), deliver(0))
	stands(t, f, 0, 2, 1, false)
	does(t, f, move(0), move(0), move(0))
	stands(t, f, 5, 1, 2, false)
	// Nor is one that comes amid the next round, be it of the round ahead, or of a switch that has answered.
	f = fresh(t, line(), 1, noOps(2), swap(), noOps(2))
	heard(t, f)
	does(t, f, twice(0), deliver(0), deliver(1), deliver(1), deliver(1), deliver(1), deliver(1), work(1), work(3), twice(1))
	underAre(t, f, yes(2, 0), yes(1, 1), yes(3, 1), yes(1, 1))
	does(t, f, deliver(1), send(0, 0), deliver(1), send(0, 1), deliver(0), deliver(0), move(0))
	stands(t, f, 3, 1, 3, false)
}

// TestNothingHoldsTheFirstRound: nothing was answered ahead of it.
func TestNothingHoldsTheFirstRound(t *testing.T) {
	f := fresh(t, line(), 1, nil, swap())
	stands(t, f, 0, 0, 1, false)
	does(t, f, send(0, 0))
	stands(t, f, 5, 1, 2, false)
	underAre(t, f, toBoth(1)...)
}

// TestRoundsWithoutOps: they are said like others, one behind each event, and nobody answers.
func TestRoundsWithoutOps(t *testing.T) {
	f := fresh(t, line(), 1, nil, nil, noOps(2), nil, nil)
	stands(t, f, 0, 0, 1, false)
	does(t, f, tick())
	stands(t, f, 0, 0, 2, false)
	// What is no event of it has it say nothing.
	refuses(t, f, deliver(0), api.ErrRange)
	refuses(t, f, work(1), api.ErrState)
	stands(t, f, 0, 0, 2, false)
	does(t, f, send(0, 0))
	stands(t, f, 3, 1, 3, false)
	does(t, f, deliver(0), deliver(0), deliver(0), work(2), deliver(0))
	stands(t, f, 0, 1, 3, false)
	does(t, f, move(0), move(0), move(0))
	stands(t, f, 0, 0, 4, false)
	does(t, f, send(0, 0))
	stands(t, f, 0, 1, 5, true)
	f = fresh(t, line(), 1, nil)
	stands(t, f, 0, 0, 1, true)
}

// TestDone: once the last round is answered, whatever is under way.
func TestDone(t *testing.T) {
	f := fresh(t, line(), 1, noOps(2), noOps(2))
	heard(t, f)
	does(t, f, twice(0), deliver(0), deliver(1), deliver(1), deliver(1), work(2), send(0, 0))
	underAre(t, f, yes(2, 0), yes(2, 1))
	stands(t, f, 2, 1, 2, false)
	does(t, f, deliver(1))
	stands(t, f, 1, 1, 2, true)
	does(t, f, deliver(0), tick(), send(0, 0), move(0), move(0), move(0), move(0))
	stands(t, f, 0, 1, 2, true)
}
