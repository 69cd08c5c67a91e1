package field

import (
	"math"
	"slices"
	"testing"

	"railpoint/api"
	"railpoint/plain"
)

// far has numbers that are right for nothing, some of which are right ones once they are cut to a byte or a word.
func far() []int {
	return []int{math.MinInt, math.MinInt + 1, -1 << 32, -256, -255, -1, 256, 257, 258, 1 << 32, 1<<32 + 1, 1<<32 + 2, math.MaxInt}
}

func noField(t *testing.T, n api.Net, l []api.Round, wait int, want api.Errno) {
	t.Helper()
	if f, err := New(n, l, wait); f != nil || plain.Told(err) != want {
		t.Errorf("New(%v, %v, %d): %v, %v, want %v", n, l, wait, f, err, want)
	}
}

// wrongNets has nets that are not right, with the fault of each.
func wrongNets() map[api.Errno][]api.Net {
	none, many, taken, named, bad, both := line(), line(), line(), line(), line(), line()
	none.Topo.Switches = 0
	many.Topo.Links = slices.Repeat(many.Topo.Links, 101)
	taken.Topo.Hosts[1].At = at(1, 1)
	named.Topo.Hosts[2].Name = "Cid"
	bad.Tables[1] = api.Table{some(1, 0, 1, 1)}
	both.Tables[2] = api.Table{all(1, 1), all(1, 2)}
	return map[api.Errno][]api.Net{
		api.ErrRange:  {{}, none, with(line(), nil, api.Table{all(100, 1)}, nil)},
		api.ErrFull:   {many, with(line(), nil, nil, api.Table(slices.Repeat([]api.Rule{all(1, 1)}, 13)))},
		api.ErrClash:  {taken, both},
		api.ErrSyntax: {named},
		api.ErrShape:  {with(line()), with(line(), nil, nil), with(line(), nil, nil, nil, nil), bad},
	}
}

// wrongRounds has rounds that are not right, with the fault of each.
func wrongRounds() map[api.Errno][][]api.Round {
	return map[api.Errno][][]api.Round{
		api.ErrRange: {{{put(0, all(1, 1))}}, {swap(), {put(7, all(1, 1))}}, {{put(1, all(100, 1))}}, {swap(), {take(1, all(1, 5))}}},
		api.ErrFull:  {make([]api.Round, 21), {puts(1, 201)}, {swap(), puts(4, 201)}},
		api.ErrShape: {{{put(1, some(1, 0, 1, 1))}}, {swap(), {take(4, api.Rule{Set: 1})}}},
	}
}

func TestNewWrong(t *testing.T) {
	for want, l := range wrongNets() {
		for _, n := range l {
			noField(t, n, nil, 1, want)
			noField(t, n, rounds(swap()), 100, want)
		}
	}
	for want, l := range wrongRounds() {
		for _, deck := range l {
			noField(t, line(), deck, 1, want)
			noField(t, line(), deck, 100, want)
		}
	}
	for _, wait := range append(far(), 0, 101) {
		noField(t, line(), nil, wait, api.ErrRange)
		noField(t, line(), make([]api.Round, 21), wait, api.ErrRange)
		noField(t, line(), rounds(api.Round{put(1, some(1, 0, 1, 1))}), wait, api.ErrRange)
	}
}

// TestNewTellsTheNetAhead: of what is wrong with it, and with the rounds, or with how long it is to wait.
func TestNewTellsTheNetAhead(t *testing.T) {
	for want, nets := range wrongNets() {
		for _, n := range nets {
			noField(t, n, nil, 0, want)
			for _, l := range wrongRounds() {
				for _, deck := range l {
					noField(t, n, deck, 1, want)
					noField(t, n, deck, 101, want)
				}
			}
		}
	}
}

// TestNewOfRoundsThatCanNotBeDone: that is for the agents to find.
func TestNewOfRoundsThatCanNotBeDone(t *testing.T) {
	f := fresh(t, line(), 1, api.Round{put(2, all(10, 2))}, api.Round{take(2, all(11, 2))}, api.Round{put(6, all(1, 1))})
	does(t, f, deliver(0), deliver(0), work(2), deliver(0), deliver(0), deliver(0), work(2), deliver(0))
	stands(t, f, 2, 0, 3, false)
	netIs(t, f, line())
}

// amid is a field amid all: of the round 1 the switch 1 has done what is asked, its Yes and what is for 3 are under
// way; a packet is old, another one young; two have ended, with a tick behind them.
func amid(t *testing.T) *Field {
	t.Helper()
	f := fresh(t, line(), 2, noOps(2), swap(), noOps(3))
	does(t, f, send(0, 1), send(1, 2), move(1), deliver(0), deliver(0), deliver(0), work(2), deliver(0), move(0), move(0))
	stands(t, f, 0, 1, 1, false)
	does(t, f, send(0, 3), move(1), move(0), deliver(0), deliver(0), deliver(0), work(1), tick(), send(2, 4))
	amidStands(t, f)
	return f
}

// amidStands asks all that it tells.
func amidStands(t *testing.T, f *Field) {
	t.Helper()
	stands(t, f, 3, 2, 2, false)
	netIs(t, f, with(line(), swapped().Tables[0], line().Tables[1], line().Tables[2]))
	endsAre(t, f, ended("bob", 1, "bob", hop(3, 4, 2)), ended("ann", 1, "bob", hop(1, 4, 1), hop(2, 1, 1), hop(3, 1, 1)))
}

// goesOn asks that nothing was changed that a later call could tell: what is left comes as it would have.
func goesOn(t *testing.T, f *Field) {
	t.Helper()
	amidStands(t, f)
	underAre(t, f, append(to3(1), yes(1, 1))...)
	does(t, f, tick())
	underAre(t, f, slices.Concat(to3(1), []api.Msg{yes(1, 1)}, toBoth(1))...)
	does(t, f, deliver(2), deliver(0), deliver(0), work(3), deliver(5))
	underAre(t, f, toBoth(1)...)
	stands(t, f, 5, 2, 2, false)
	does(t, f, move(0), move(1), send(0, 5), move(1), move(0))
	stands(t, f, 5, 3, 2, false)
	does(t, f, move(0))
	stands(t, f, 5, 2, 2, false)
	does(t, f, move(0))
	stands(t, f, 8, 1, 3, false)
	underAre(t, f, slices.Concat(toBoth(1), []api.Msg{do(2, 0, noOps(3)[0]), do(2, 1, noOps(3)[1]), ask(3, 2, 2)})...)
	netIs(t, f, swapped())
	endsAre(t, f, ended("bob", 1, "bob", hop(3, 4, 2)), ended("ann", 1, "bob", hop(1, 4, 1), hop(2, 1, 1), hop(3, 1, 1)),
		ended("ann", 4, "", hop(1, 4, 3), hop(2, 1, 3), hop(3, 1, 3), hop(2, 2, 3)),
		ended("cid", 4, "", hop(2, 4, 4), hop(3, 1, 4), hop(2, 2, 4)))
}

// wrongEvents has events that are none of the field amid all.
func wrongEvents() []api.Event {
	var out []api.Event
	for _, n := range append(far(), 0, 8, 9) {
		out = append(out, api.Event{What: n}, api.Event{What: n, A: 1, B: 1})
	}
	for _, n := range append(far(), 3, 4, 200) {
		out = append(out, deliver(n), lose(n), twice(n), send(n, 0), send(n, 16))
	}
	for _, n := range append(far(), 2, 3, 200) {
		out = append(out, move(n))
	}
	for _, n := range append(far(), 0, 4, 5, 6, 7) {
		out = append(out, work(n))
	}
	for _, n := range append(far(), 16, 17, 31) {
		out = append(out, send(0, n), send(2, n))
	}
	return out
}

// TestEventsThatAreNone: whatever is asked, nothing is changed by them.
func TestEventsThatAreNone(t *testing.T) {
	f := amid(t)
	for _, e := range wrongEvents() {
		refuses(t, f, e, api.ErrRange)
		amidStands(t, f)
		g := amid(t)
		refuses(t, g, e, api.ErrRange)
		goesOn(t, g)
	}
	goesOn(t, f)
}

// TestWorkThatIsNotReady: of switches that have heard nothing, not all, or have done what they heard.
func TestWorkThatIsNotReady(t *testing.T) {
	f := amid(t)
	for a := 1; a <= 3; a++ {
		refuses(t, f, work(a), api.ErrState)
		amidStands(t, f)
	}
	goesOn(t, f)
}

// TestNothingIsThere: of an empty field nothing can be told by its place.
func TestNothingIsThere(t *testing.T) {
	f := fresh(t, api.Net{Topo: api.Topo{Switches: 1}, Tables: []api.Table{nil}}, 1)
	for _, n := range append(far(), 0, 1, 2, 199) {
		for what := api.Deliver; what <= api.Move; what++ {
			want := api.ErrRange
			if what == api.Tick {
				want = api.OK
			} else if what == api.Work && n == 1 {
				want = api.ErrState
			}
			refuses(t, f, api.Event{What: what, A: n}, want)
			stands(t, f, 0, 0, 0, true)
		}
	}
}
