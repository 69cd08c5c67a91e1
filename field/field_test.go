package field

import (
	"slices"
	"testing"

	"railpoint/api"
	"railpoint/change"
	"railpoint/plain"
)

func at(a, port int) api.Spot { return api.Spot{Switch: a, Port: port} }

// all is a rule for all headers.
func all(prio, out int) api.Rule { return api.Rule{Prio: prio, Out: out} }

// some is a rule for the headers of a cube.
func some(prio, mask, bits, out int) api.Rule {
	return api.Rule{Prio: prio, Cube: api.Cube{Mask: mask, Bits: bits}, Out: out}
}

// put and take are ops.
func put(to int, r api.Rule) api.Op { return api.Op{Switch: to, Add: true, Rule: r} }

func take(to int, r api.Rule) api.Op { return api.Op{Switch: to, Rule: r} }

// do has one op, ask and yes have none.
func do(round, index int, o api.Op) api.Msg {
	return api.Msg{Kind: 1, Switch: o.Switch, Round: round, Index: index, Op: o}
}

func ask(to, round, size int) api.Msg {
	return api.Msg{Kind: 2, Switch: to, Round: round, Index: size}
}

func yes(from, round int) api.Msg { return api.Msg{Kind: 3, Switch: from, Round: round} }

// What may be done.
func deliver(i int) api.Event { return api.Event{What: 1, A: i} }

func lose(i int) api.Event { return api.Event{What: 2, A: i} }

func twice(i int) api.Event { return api.Event{What: 3, A: i} }

func work(a int) api.Event { return api.Event{What: 4, A: a} }

func tick() api.Event { return api.Event{What: 5} }

func send(host, header int) api.Event { return api.Event{What: 6, A: host, B: header} }

func move(i int) api.Event { return api.Event{What: 7, A: i} }

func rounds(l ...api.Round) []api.Round { return l }

// line is 1 - 2 - 3, with ann (the host 0) at 1, bob (1) at 3, cid (2) at 2; whatever ann sends comes to bob.
func line() api.Net {
	return api.Net{
		Topo: api.Topo{
			Switches: 3,
			Links:    []api.Link{{A: at(1, 1), B: at(2, 1)}, {A: at(3, 1), B: at(2, 2)}},
			Hosts:    []api.Host{{Name: "ann", At: at(1, 4)}, {Name: "bob", At: at(3, 4)}, {Name: "cid", At: at(2, 4)}},
		},
		Tables: []api.Table{{all(10, 1)}, {all(10, 2)}, {all(10, 4)}},
	}
}

// with is a net with other tables.
func with(n api.Net, l ...api.Table) api.Net {
	n.Tables = l
	return n
}

// fresh is a field to which nothing has happened.
func fresh(t *testing.T, n api.Net, wait int, l ...api.Round) *Field {
	t.Helper()
	f, err := New(n, l, wait)
	if f == nil || err != nil {
		t.Fatalf("New(%v, %v, %d): %v, %v", n, l, wait, f, err)
	}
	return f
}

// does has events happen to a field.
func does(t *testing.T, f *Field, l ...api.Event) {
	t.Helper()
	for _, e := range l {
		if err := f.Do(e); err != nil {
			t.Errorf("Do(%v): %v", e, err)
		}
	}
}

// refuses asks that an event is none of a field.
func refuses(t *testing.T, f *Field, e api.Event, want api.Errno) {
	t.Helper()
	if err := f.Do(e); plain.Told(err) != want {
		t.Errorf("Do(%v): %v, want %v", e, err, want)
	}
}

// underAre asks which messages are under way.
func underAre(t *testing.T, f *Field, want ...api.Msg) {
	t.Helper()
	if !slices.Equal(f.under, want) || f.Under() != len(want) {
		t.Errorf("under way are %v, and as many as %d, want %v", f.under, f.Under(), want)
	}
}

// stands asks how many messages and packets are under way, and how far the drive is.
func stands(t *testing.T, f *Field, under, packets, rounds int, done bool) {
	t.Helper()
	if f.Under() != under || f.Packets() != packets {
		t.Errorf("Under, Packets: %d, %d, want %d, %d", f.Under(), f.Packets(), under, packets)
	}
	if f.Rounds() != rounds || f.Done() != done {
		t.Errorf("Rounds, Done: %d, %v, want %d, %v", f.Rounds(), f.Done(), rounds, done)
	}
}

// netIs asks for a net to the rule, and in their order.
func netIs(t *testing.T, f *Field, want api.Net) {
	t.Helper()
	got := f.Net()
	same, err := change.Same(got, want)
	if !same || err != nil || !slices.EqualFunc(got.Tables, want.Tables, slices.Equal) {
		t.Errorf("Net: %v, want %v", got, want)
	}
}

// end of a packet: who sent it, and what became of it.
type end struct {
	from string
	api.Fate
}

// hop came in there with that header.
func hop(a, port, header int) api.Hop { return api.Hop{At: at(a, port), Header: header} }

func ended(from string, how int, host string, hops ...api.Hop) end {
	return end{from, api.Fate{How: how, Host: host, Hops: hops}}
}

func sameEnd(a, b end) bool {
	return a.from == b.from && a.How == b.How && a.Host == b.Host && slices.Equal(a.Hops, b.Hops)
}

// endsAre asks for what became of all packets that have ended, as they did.
func endsAre(t *testing.T, f *Field, want ...end) {
	t.Helper()
	fates, froms := f.Fates(), f.Froms()
	if len(fates) != len(froms) {
		t.Fatalf("%d fates have %d froms", len(fates), len(froms))
	}
	var got []end
	for i, x := range fates {
		got = append(got, end{froms[i], x})
	}
	if !slices.EqualFunc(got, want, sameEnd) {
		t.Errorf("ended are %v, want %v", got, want)
	}
}

// swap is a round of the switches 3 and 1: it turns ann's packets to herself, and bob's as well.
func swap() api.Round {
	return api.Round{put(3, all(20, 1)), take(1, all(10, 1)), put(1, all(10, 4))}
}

// to1 and to3 are what is said of it, if it is the round of that number.
func to1(round int) []api.Msg {
	return []api.Msg{do(round, 0, take(1, all(10, 1))), do(round, 1, put(1, all(10, 4))), ask(1, round, 2)}
}

func to3(round int) []api.Msg { return []api.Msg{do(round, 0, put(3, all(20, 1))), ask(3, round, 1)} }

func toBoth(round int) []api.Msg { return slices.Concat(to1(round), to3(round)) }

// swapped is the line behind it.
func swapped() api.Net {
	return with(line(), api.Table{all(10, 4)}, api.Table{all(10, 2)}, api.Table{all(10, 4), all(20, 1)})
}

// noOps is a round in which one switch has nothing but to answer, as far as its table is seen.
func noOps(a int) api.Round { return api.Round{put(a, all(1, 0)), take(a, all(1, 0))} }

func TestNewWithoutRounds(t *testing.T) {
	lone := api.Net{Topo: api.Topo{Switches: 1}, Tables: []api.Table{nil}}
	for _, n := range []api.Net{line(), swapped(), lone, with(line(), nil, nil, nil)} {
		for _, wait := range []int{1, 2, 99, 100} {
			f := fresh(t, n, wait)
			stands(t, f, 0, 0, 0, true)
			netIs(t, f, n)
			endsAre(t, f)
			for range 3 {
				does(t, f, tick())
			}
			stands(t, f, 0, 0, 0, true)
		}
	}
}

// TestTheBeginning: the first round is said ahead of all that happens, the next one is not.
func TestTheBeginning(t *testing.T) {
	f := fresh(t, line(), 5, swap(), noOps(2))
	underAre(t, f, toBoth(0)...)
	stands(t, f, 5, 0, 1, false)
	netIs(t, f, line())
	endsAre(t, f)
}

// TestDeliverToAgents: each message to the switch it is for, and which of them is told by its place.
func TestDeliverToAgents(t *testing.T) {
	f := fresh(t, line(), 5, swap())
	m := toBoth(0)
	refuses(t, f, work(1), api.ErrState)
	does(t, f, deliver(1))
	underAre(t, f, m[0], m[2], m[3], m[4])
	does(t, f, deliver(3))
	underAre(t, f, m[0], m[2], m[3])
	does(t, f, deliver(0), deliver(0))
	underAre(t, f, m[3])
	refuses(t, f, work(3), api.ErrState)
	refuses(t, f, work(2), api.ErrState)
	netIs(t, f, line())
	does(t, f, work(1))
	underAre(t, f, m[3], yes(1, 0))
	netIs(t, f, with(line(), swapped().Tables[0], line().Tables[1], line().Tables[2]))
	does(t, f, deliver(0), work(3))
	underAre(t, f, yes(1, 0), yes(3, 0))
	netIs(t, f, swapped())
	refuses(t, f, work(1), api.ErrState)
	refuses(t, f, work(3), api.ErrState)
}

// TestDeliverToTheDrive: it has heard a Yes once it comes, not once it is said.
func TestDeliverToTheDrive(t *testing.T) {
	f := fresh(t, line(), 5, swap())
	does(t, f, deliver(0), deliver(0), deliver(0), deliver(0), deliver(0), work(3), work(1))
	underAre(t, f, yes(3, 0), yes(1, 0))
	stands(t, f, 2, 0, 1, false)
	does(t, f, deliver(1))
	underAre(t, f, yes(3, 0))
	stands(t, f, 1, 0, 1, false)
	does(t, f, deliver(0))
	stands(t, f, 0, 0, 1, true)
	netIs(t, f, swapped())
}

// TestAnswersComeBehindAll: also that of an Ask for a round that is done.
func TestAnswersComeBehindAll(t *testing.T) {
	f := fresh(t, line(), 1, swap())
	m := toBoth(0)
	does(t, f, deliver(0), deliver(0), twice(0), tick())
	underAre(t, f, slices.Concat(m[2:], m[2:3], m)...)
	does(t, f, deliver(0), work(1))
	underAre(t, f, slices.Concat(m[3:], m[2:3], m, []api.Msg{yes(1, 0)})...)
	does(t, f, deliver(2))
	underAre(t, f, slices.Concat(m[3:], m, []api.Msg{yes(1, 0), yes(1, 0)})...)
	// Ops of a round that is done are heard, and not answered.
	does(t, f, deliver(2), deliver(2))
	underAre(t, f, slices.Concat(m[3:], m[2:], []api.Msg{yes(1, 0), yes(1, 0)})...)
	does(t, f, deliver(2))
	underAre(t, f, slices.Concat(m[3:], m[3:], []api.Msg{yes(1, 0), yes(1, 0), yes(1, 0)})...)
	netIs(t, f, with(line(), swapped().Tables[0], line().Tables[1], line().Tables[2]))
}

// TestErrorsOfHearersDoNotMatter: what the drive does not wait for is no more under way, and that is all.
func TestErrorsOfHearersDoNotMatter(t *testing.T) {
	f := fresh(t, line(), 9, noOps(2), swap())
	does(t, f, deliver(0), deliver(0), deliver(0), work(2), twice(0), twice(0))
	underAre(t, f, yes(2, 0), yes(2, 0), yes(2, 0))
	does(t, f, deliver(0))
	underAre(t, f, slices.Concat([]api.Msg{yes(2, 0), yes(2, 0)}, toBoth(1))...)
	stands(t, f, 7, 0, 2, false)
	does(t, f, deliver(1), deliver(0))
	underAre(t, f, toBoth(1)...)
	stands(t, f, 5, 0, 2, false)
}

// TestSwitchesThatAreNotThere: what is for them is heard by nobody, so that a round with one of them is never done.
func TestSwitchesThatAreNotThere(t *testing.T) {
	for _, a := range []int{4, 5, 6} {
		f := fresh(t, line(), 1, api.Round{put(a, all(1, 1)), put(2, all(20, 4))}, swap())
		for range 3 {
			does(t, f, deliver(2), deliver(2))
			underAre(t, f, do(0, 0, put(2, all(20, 4))), ask(2, 0, 1))
			refuses(t, f, work(a), api.ErrRange)
			does(t, f, lose(1), lose(0), tick())
		}
		does(t, f, deliver(0), deliver(0), work(2), deliver(2), deliver(0), deliver(0))
		stands(t, f, 0, 0, 1, false)
		does(t, f, tick())
		underAre(t, f, do(0, 0, put(a, all(1, 1))), ask(a, 0, 1))
		netIs(t, f, with(line(), line().Tables[0], api.Table{all(10, 2), all(20, 4)}, line().Tables[2]))
	}
}

func TestLose(t *testing.T) {
	f := fresh(t, line(), 2, swap())
	m := toBoth(0)
	does(t, f, lose(3))
	underAre(t, f, m[0], m[1], m[2], m[4])
	does(t, f, lose(0))
	underAre(t, f, m[1], m[2], m[4])
	does(t, f, deliver(0), deliver(0), deliver(0))
	stands(t, f, 0, 0, 1, false)
	// Neither has heard all.
	refuses(t, f, work(1), api.ErrState)
	refuses(t, f, work(3), api.ErrState)
	// What is lost is said again, and answers, too, may be lost.
	does(t, f, tick(), tick())
	underAre(t, f, m...)
	does(t, f, deliver(0), deliver(2), work(1), work(3), lose(4), lose(3))
	stands(t, f, 3, 0, 1, false)
	netIs(t, f, swapped())
	does(t, f, deliver(1))
	underAre(t, f, m[1], m[4], yes(1, 0))
	does(t, f, deliver(1), deliver(1), deliver(1))
	stands(t, f, 1, 0, 1, true)
}

func TestTwice(t *testing.T) {
	f := fresh(t, line(), 2, swap())
	m := toBoth(0)
	does(t, f, twice(1))
	underAre(t, f, append(toBoth(0), m[1])...)
	does(t, f, twice(0), twice(5))
	underAre(t, f, append(toBoth(0), m[1], m[0], m[1])...)
	// The first of both that comes is heard as the other one would have been.
	does(t, f, lose(0), deliver(0), deliver(0), deliver(3), work(1))
	underAre(t, f, m[3], m[4], m[1], m[1], yes(1, 0))
	netIs(t, f, with(line(), swapped().Tables[0], line().Tables[1], line().Tables[2]))
}

// TestTick: what is said again is under way, behind all.
func TestTick(t *testing.T) {
	f := fresh(t, line(), 3, swap())
	does(t, f, tick(), tick())
	underAre(t, f, toBoth(0)...)
	does(t, f, tick())
	underAre(t, f, slices.Concat(toBoth(0), toBoth(0))...)
	does(t, f, deliver(0), deliver(0), deliver(0), work(1), deliver(7), tick(), tick())
	underAre(t, f, slices.Concat(to3(0), toBoth(0))...)
	does(t, f, tick())
	underAre(t, f, slices.Concat(to3(0), toBoth(0), to3(0))...)
}

// TestNothingElseIsATick: ticks are counted from the round on, by themselves alone.
func TestNothingElseIsATick(t *testing.T) {
	f := fresh(t, line(), 2, noOps(2), swap())
	does(t, f, tick(), deliver(0), deliver(0), deliver(0), work(2), send(0, 1), move(0), move(0), move(0))
	underAre(t, f, yes(2, 0))
	does(t, f, deliver(0))
	underAre(t, f, toBoth(1)...)
	does(t, f, tick())
	underAre(t, f, toBoth(1)...)
	does(t, f, tick())
	underAre(t, f, slices.Concat(toBoth(1), toBoth(1))...)
}

// TestSendAndMove: hop by hop up to a host.
func TestSendAndMove(t *testing.T) {
	f := fresh(t, line(), 1)
	does(t, f, send(0, 5))
	stands(t, f, 0, 1, 0, true)
	does(t, f, move(0))
	stands(t, f, 0, 1, 0, true)
	does(t, f, move(0))
	stands(t, f, 0, 1, 0, true)
	endsAre(t, f)
	does(t, f, move(0))
	stands(t, f, 0, 0, 0, true)
	endsAre(t, f, ended("ann", 1, "bob", hop(1, 4, 5), hop(2, 1, 5), hop(3, 1, 5)))
	refuses(t, f, move(0), api.ErrRange)
	// A host may be sent what it has sent.
	does(t, f, send(1, 0), move(0), send(2, 15), move(0), move(0))
	stands(t, f, 0, 0, 0, true)
	endsAre(t, f, ended("ann", 1, "bob", hop(1, 4, 5), hop(2, 1, 5), hop(3, 1, 5)),
		ended("bob", 1, "bob", hop(3, 4, 0)), ended("cid", 1, "bob", hop(2, 4, 15), hop(3, 1, 15)))
}

// TestEnds: each way in which a packet ends, at its first hop, or later on.
func TestEnds(t *testing.T) {
	to := api.Rule{Prio: 20, Cube: api.Cube{Mask: 8, Bits: 8}, Out: 1, Set: 3, Value: 2}
	f := fresh(t, with(line(), api.Table{to, some(5, 15, 1, 2), some(5, 15, 2, 0)}, api.Table{some(9, 14, 10, 3), some(9, 14, 14, 0)}, nil), 1)
	does(t, f, send(0, 3), move(0), send(0, 1), move(0), send(0, 2), move(0), send(1, 3), move(0))
	does(t, f, send(0, 8), move(0), move(0), send(0, 15), move(0), move(0))
	does(t, f, send(2, 0), move(0), send(2, 11), move(0), send(2, 15), move(0))
	endsAre(t, f,
		ended("ann", 2, "", hop(1, 4, 3)), ended("ann", 3, "", hop(1, 4, 1)), ended("ann", 2, "", hop(1, 4, 2)), ended("bob", 2, "", hop(3, 4, 3)),
		ended("ann", 3, "", hop(1, 4, 8), hop(2, 1, 10)), ended("ann", 2, "", hop(1, 4, 15), hop(2, 1, 14)),
		ended("cid", 2, "", hop(2, 4, 0)), ended("cid", 3, "", hop(2, 4, 11)), ended("cid", 2, "", hop(2, 4, 15)))
	stands(t, f, 0, 0, 0, true)
}

// TestLooped: the hop to where it was is not told, nor one more than 24.
func TestLooped(t *testing.T) {
	back := with(line(), api.Table{all(10, 1)}, api.Table{all(10, 1)}, nil)
	f := fresh(t, back, 1)
	does(t, f, send(0, 7), move(0), move(0))
	stands(t, f, 0, 1, 0, true)
	does(t, f, move(0))
	stands(t, f, 0, 0, 0, true)
	endsAre(t, f, ended("ann", 4, "", hop(1, 4, 7), hop(2, 1, 7), hop(1, 1, 7)))
	f = fresh(t, with(line(), api.Table{all(10, 1)}, counting(), nil), 1)
	does(t, f, send(0, 0))
	want := []api.Hop{hop(1, 4, 0)}
	for i := range 23 {
		does(t, f, move(0))
		want = append(want, hop(2-i%2, 1, (i+1)/2))
	}
	stands(t, f, 0, 1, 0, true)
	does(t, f, move(0))
	stands(t, f, 0, 0, 0, true)
	endsAre(t, f, ended("ann", 4, "", want...))
}

// counting is a table that sends a packet back with the next header.
func counting() api.Table {
	var l api.Table
	for _, bit := range []int{1, 2, 4, 8} {
		// The bits below it are all there, and go; it comes.
		l = append(l, api.Rule{Prio: 1, Cube: api.Cube{Mask: 2*bit - 1, Bits: bit - 1}, Out: 1, Set: 2*bit - 1, Value: bit})
	}
	return l
}

// TestMoveByTheTableNow: not by that of when it was sent, nor by that of when it came there.
func TestMoveByTheTableNow(t *testing.T) {
	f := fresh(t, line(), 1, swap())
	does(t, f, send(0, 1), send(0, 2), send(1, 3), move(0), move(0), move(1))
	does(t, f, deliver(0), deliver(0), deliver(0), deliver(0), deliver(0), work(3), work(1))
	does(t, f, send(0, 4), move(3), move(2), move(1), move(1), move(0))
	stands(t, f, 2, 3, 1, false)
	endsAre(t, f, ended("ann", 1, "ann", hop(1, 4, 4)))
	// The first one is back at 2, the second one at 3 a second time, the third one at 3 as well.
	does(t, f, move(0))
	endsAre(t, f, ended("ann", 1, "ann", hop(1, 4, 4)), ended("ann", 4, "", hop(1, 4, 1), hop(2, 1, 1), hop(3, 1, 1), hop(2, 2, 1)))
	does(t, f, move(1))
	stands(t, f, 2, 2, 1, false)
	does(t, f, move(1))
	endsAre(t, f, ended("ann", 1, "ann", hop(1, 4, 4)), ended("ann", 4, "", hop(1, 4, 1), hop(2, 1, 1), hop(3, 1, 1), hop(2, 2, 1)),
		ended("bob", 4, "", hop(3, 4, 3), hop(2, 2, 3), hop(3, 1, 3)))
}

// TestLoopedByNewTables: also where each table alone would have let it go on.
func TestLoopedByNewTables(t *testing.T) {
	f := fresh(t, line(), 1, api.Round{put(2, all(20, 1))})
	does(t, f, send(0, 6), move(0), deliver(0), deliver(0), work(2), move(0))
	stands(t, f, 1, 1, 1, false)
	does(t, f, move(0))
	endsAre(t, f, ended("ann", 4, "", hop(1, 4, 6), hop(2, 1, 6), hop(1, 1, 6)))
	// One that came to its spot with another header goes on.
	f = fresh(t, line(), 1, api.Round{put(2, api.Rule{Prio: 20, Out: 1, Set: 1, Value: 1})})
	does(t, f, send(0, 6), move(0), deliver(0), deliver(0), work(2), move(0), move(0))
	stands(t, f, 1, 1, 1, false)
	does(t, f, move(0))
	endsAre(t, f, ended("ann", 4, "", hop(1, 4, 6), hop(2, 1, 6), hop(1, 1, 7), hop(2, 1, 7)))
}

// TestPacketsKeepTheirPlaces: one that goes on stays where it is among the others, one that ends leaves its place.
func TestPacketsKeepTheirPlaces(t *testing.T) {
	f := fresh(t, line(), 1)
	for i := range 5 {
		does(t, f, send(0, i))
	}
	does(t, f, move(2), move(2), move(4), move(2))
	stands(t, f, 0, 4, 0, true)
	does(t, f, move(3), move(3))
	stands(t, f, 0, 3, 0, true)
	does(t, f, send(2, 9), move(3), move(1), move(3), move(0), move(0), move(0), move(0), move(0))
	path := func(header int) []api.Hop { return []api.Hop{hop(1, 4, header), hop(2, 1, header), hop(3, 1, header)} }
	endsAre(t, f, ended("ann", 1, "bob", path(2)...), ended("ann", 1, "bob", path(4)...),
		ended("cid", 1, "bob", hop(2, 4, 9), hop(3, 1, 9)), ended("ann", 1, "bob", path(0)...), ended("ann", 1, "bob", path(1)...))
	stands(t, f, 0, 1, 0, true)
}

// TestWhatAnEventDoesNotAsk: of numbers that it does not speak of none matters.
func TestWhatAnEventDoesNotAsk(t *testing.T) {
	for _, n := range append(far(), 0, 1, 7) {
		f := fresh(t, line(), 2, swap())
		m := toBoth(0)
		does(t, f, api.Event{What: 5, A: n, B: n}, api.Event{What: 5, A: n, B: -n})
		underAre(t, f, append(toBoth(0), m...)...)
		does(t, f, api.Event{What: 2, A: 9, B: n}, api.Event{What: 3, A: 2, B: n}, api.Event{What: 1, A: 0, B: n})
		underAre(t, f, slices.Concat(m[1:], m[:4], m[2:3])...)
		does(t, f, deliver(0), deliver(0), api.Event{What: 4, A: 1, B: n}, send(1, 3), api.Event{What: 7, A: 0, B: n})
		underAre(t, f, slices.Concat(m[3:], m[:4], m[2:3], []api.Msg{yes(1, 0)})...)
		endsAre(t, f, ended("bob", 1, "bob", hop(3, 4, 3)))
	}
}
