package field

import (
	"slices"
	"testing"

	"railpoint/api"
)

// puts is a round of n ops of a switch, no two of them alike.
func puts(to, n int) (r api.Round) {
	for i := range n {
		r = append(r, put(to, some(i%100, 15, i/100, 1)))
	}
	return r
}

// TestTheFirstRoundIsTooLong: of what is said up to 200 messages are under way, the others are lost.
func TestTheFirstRoundIsTooLong(t *testing.T) {
	f := fresh(t, line(), 1, puts(2, 199))
	stands(t, f, 200, 0, 1, false)
	if last := f.under[199]; last != ask(2, 0, 199) {
		t.Errorf("the last message is %v", last)
	}
	f = fresh(t, line(), 1, puts(2, 200))
	stands(t, f, 200, 0, 1, false)
	if last := f.under[199]; last != do(0, 199, puts(2, 200)[199]) {
		t.Errorf("the last message is %v", last)
	}
	// The Ask is said again, and lost again, as long as there is no room.
	for range 3 {
		does(t, f, tick())
		stands(t, f, 200, 0, 1, false)
	}
	refuses(t, f, twice(0), api.ErrFull)
	does(t, f, lose(0), tick())
	if first, last := f.under[0], f.under[199]; first != do(0, 1, puts(2, 200)[1]) || last != do(0, 0, puts(2, 200)[0]) {
		t.Errorf("the first message is %v, the last one %v", first, last)
	}
	for range 200 {
		does(t, f, deliver(0))
	}
	refuses(t, f, work(2), api.ErrState)
	does(t, f, tick(), lose(0), tick())
	stands(t, f, 200, 0, 1, false)
	for range 199 {
		does(t, f, lose(0))
	}
	does(t, f, tick())
	for range 199 {
		does(t, f, lose(1))
	}
	stands(t, f, 1, 0, 1, false)
}

// filled is a field of which the switch 2 has heard all of the round 0, and 200 messages are under way: its first
// one, again and again.
func filled(t *testing.T, l ...api.Round) *Field {
	t.Helper()
	f := fresh(t, line(), 1, l...)
	does(t, f, twice(0), deliver(0), deliver(0), deliver(0))
	for range 199 {
		does(t, f, twice(0))
	}
	underAre(t, f, slices.Repeat([]api.Msg{do(0, 0, l[0][0])}, 200)...)
	stands(t, f, 200, 0, 1, false)
	return f
}

// TestTwiceFull: the 200th is taken, the 201st not.
func TestTwiceFull(t *testing.T) {
	f := fresh(t, line(), 1, noOps(2))
	for i := range 197 {
		stands(t, f, 3+i, 0, 1, false)
		does(t, f, twice(i))
	}
	was := append([]api.Msg(nil), f.under...)
	for _, i := range []int{0, 1, 199} {
		refuses(t, f, twice(i), api.ErrFull)
		underAre(t, f, was...)
	}
	refuses(t, f, twice(200), api.ErrRange)
	refuses(t, f, twice(-1), api.ErrRange)
	does(t, f, lose(100), twice(0))
	refuses(t, f, twice(0), api.ErrFull)
	stands(t, f, 200, 0, 1, false)
}

// TestTheYesOfWorkIsLost: the work is done all the same.
func TestTheYesOfWorkIsLost(t *testing.T) {
	ops := api.Round{put(2, all(20, 1)), take(2, all(10, 2))}
	f := filled(t, ops)
	does(t, f, work(2))
	underAre(t, f, slices.Repeat([]api.Msg{do(0, 0, ops[0])}, 200)...)
	netIs(t, f, with(line(), line().Tables[0], api.Table{all(20, 1)}, line().Tables[2]))
	refuses(t, f, work(2), api.ErrState)
	for range 3 {
		does(t, f, lose(0))
	}
	does(t, f, tick())
	underAre(t, f, slices.Concat(slices.Repeat([]api.Msg{do(0, 0, ops[0])}, 198), []api.Msg{do(0, 1, ops[1]), ask(2, 0, 2)})...)
	// What is delivered makes room for its answer.
	does(t, f, deliver(199))
	stands(t, f, 200, 0, 1, false)
	if last := f.under[199]; last != yes(2, 0) {
		t.Errorf("the last message is %v", last)
	}
	does(t, f, deliver(199))
	stands(t, f, 199, 0, 1, true)
}

// TestTheNextRoundIsLostInPart: as much of it as there is room for is under way, the others are not.
func TestTheNextRoundIsLostInPart(t *testing.T) {
	f := fresh(t, line(), 1, noOps(2), swap())
	heard(t, f)
	for range 199 {
		does(t, f, twice(0))
	}
	stands(t, f, 200, 0, 1, false)
	does(t, f, deliver(7))
	stands(t, f, 200, 0, 2, false)
	if last := f.under[199]; last != toBoth(1)[0] {
		t.Errorf("the last message is %v", last)
	}
	// It counts as said.
	does(t, f, deliver(0), deliver(0), deliver(0))
	stands(t, f, 197, 0, 2, false)
	does(t, f, tick())
	stands(t, f, 200, 0, 2, false)
	for i, want := range toBoth(1)[:3] {
		if got := f.under[197+i]; got != want {
			t.Errorf("at %d there is %v, want %v", 197+i, got, want)
		}
	}
}

// TestSendFull: 200 packets, wherever those that were sent are by now.
func TestSendFull(t *testing.T) {
	f := fresh(t, line(), 1)
	for i := range 200 {
		does(t, f, send(i%3, i%16))
		if i%3 == 1 {
			does(t, f, move(f.Packets()-1))
		}
	}
	for range 2 {
		refuses(t, f, send(0, 0), api.ErrFull)
		refuses(t, f, send(2, 15), api.ErrFull)
		refuses(t, f, send(3, 0), api.ErrRange)
		refuses(t, f, send(-1, 0), api.ErrRange)
		refuses(t, f, send(0, 16), api.ErrRange)
		refuses(t, f, send(0, -1), api.ErrRange)
	}
	stands(t, f, 0, 133, 0, true)
	for f.Packets() > 0 {
		does(t, f, move(0))
	}
	refuses(t, f, send(0, 0), api.ErrFull)
	if n := len(f.Fates()); n != 200 {
		t.Errorf("%d packets have ended", n)
	}
}

// TestFullOfPacketsIsNotFullOfMessages: nor the other way round.
func TestFullOfPacketsIsNotFullOfMessages(t *testing.T) {
	f := filled(t, noOps(2), swap())
	does(t, f, send(0, 0), move(0))
	for range 199 {
		does(t, f, send(0, 0))
	}
	refuses(t, f, send(0, 0), api.ErrFull)
	does(t, f, lose(0), twice(0), tick(), deliver(0), move(0))
	stands(t, f, 199, 200, 1, false)
}
