package drive

import (
	"slices"
	"testing"

	"railpoint/api"
	"railpoint/plain"
	"railpoint/wire"
)

// of is a right rule that goes out at port 1.
func of(prio, mask, bits int) api.Rule {
	return api.Rule{Prio: prio, Cube: api.Cube{Mask: mask, Bits: bits}, Out: 1}
}

// put and take are ops, of rules that differ by their Prio alone.
func put(to, prio int) api.Op { return api.Op{Switch: to, Add: true, Rule: of(prio, 0, 0)} }

func take(to, prio int) api.Op { return api.Op{Switch: to, Rule: of(prio, 0, 0)} }

// puts has n ops of one switch, no two of them alike.
func puts(to, n int) (r api.Round) {
	for i := range n {
		r = append(r, api.Op{Switch: to, Add: true, Rule: of(i%100, 15, i/100)})
	}
	return r
}

// do has one op, ask and yes have none.
func do(round, index int, o api.Op) api.Msg {
	return api.Msg{Kind: 1, Switch: o.Switch, Round: round, Index: index, Op: o}
}

func ask(to, round, size int) api.Msg {
	return api.Msg{Kind: 2, Switch: to, Round: round, Index: size}
}

func yes(from, round int) api.Msg { return api.Msg{Kind: 3, Switch: from, Round: round} }

func rounds(l ...api.Round) []api.Round { return l }

// fresh is a drive that has said nothing.
func fresh(t *testing.T, wait int, l ...api.Round) *Drive {
	t.Helper()
	d, err := New(l, wait)
	if d == nil || err != nil {
		t.Fatalf("New(%v, %d): %v, %v", l, wait, d, err)
	}
	return d
}

// says has a drive say its next round: just these messages.
func says(t *testing.T, d *Drive, want ...api.Msg) {
	t.Helper()
	if got, err := d.Next(); !slices.Equal(got, want) || err != nil {
		t.Errorf("Next: %v, %v, want %v", got, err, want)
	}
}

// noNext asks that a drive has nothing to say next.
func noNext(t *testing.T, d *Drive) {
	t.Helper()
	if got, err := d.Next(); got != nil || plain.Told(err) != api.ErrState {
		t.Errorf("Next: %v, %v, want %v", got, err, api.ErrState)
	}
}

// hears has a drive hear that switches have done a round.
func hears(t *testing.T, d *Drive, round int, from ...int) {
	t.Helper()
	for _, a := range from {
		if err := d.Hear(yes(a, round)); err != nil {
			t.Errorf("Hear(%v): %v", yes(a, round), err)
		}
	}
}

// deaf asks that a drive does not take a message.
func deaf(t *testing.T, d *Drive, m api.Msg, want api.Errno) {
	t.Helper()
	if err := d.Hear(m); plain.Told(err) != want {
		t.Errorf("Hear(%v): %v, want %v", m, err, want)
	}
}

// ticks has a drive say these messages at a tick.
func ticks(t *testing.T, d *Drive, want ...api.Msg) {
	t.Helper()
	if got := d.Tick(); !slices.Equal(got, want) {
		t.Errorf("Tick: %v, want %v", got, want)
	}
}

// quiet asks that at so many ticks nothing is said.
func quiet(t *testing.T, d *Drive, n int) {
	t.Helper()
	for range n {
		ticks(t, d)
	}
}

// stands asks all that a drive tells.
func stands(t *testing.T, d *Drive, round int, done bool, left ...int) {
	t.Helper()
	if got := d.Left(); !slices.Equal(got, left) {
		t.Errorf("Left: %v, want %v", got, left)
	}
	if got := d.Round(); got != round {
		t.Errorf("Round: %d, want %d", got, round)
	}
	if got := d.Done(); got != done {
		t.Errorf("Done: %v, want %v", got, done)
	}
}

// three is a round of three switches, neither of which has its ops together, nor are they rising.
func three() api.Round {
	return api.Round{put(4, 10), take(2, 20), put(4, 11), put(6, 10), put(2, 21), take(4, 12)}
}

// to2, to4 and to6 are what is said of it, if it is the round of that number.
func to2(round int) []api.Msg {
	return []api.Msg{do(round, 0, take(2, 20)), do(round, 1, put(2, 21)), ask(2, round, 2)}
}

func to4(round int) []api.Msg {
	return []api.Msg{do(round, 0, put(4, 10)), do(round, 1, put(4, 11)), do(round, 2, take(4, 12)), ask(4, round, 3)}
}

func to6(round int) []api.Msg {
	return []api.Msg{do(round, 0, put(6, 10)), ask(6, round, 1)}
}

func toAll(round int) []api.Msg { return slices.Concat(to2(round), to4(round), to6(round)) }

// many has n rounds of one op each, of the switches 1 to 6, one after the other.
func many(n int) (l []api.Round) {
	for i := range n {
		l = append(l, api.Round{put(i%6+1, i)})
	}
	return l
}

func TestNew(t *testing.T) {
	full := api.Round(slices.Concat(puts(1, 50), puts(6, 150)))
	for _, wait := range []int{1, 2, 50, 99, 100} {
		for _, l := range [][]api.Round{{nil}, {{}}, many(1), many(2), many(20), {full}, slices.Repeat(rounds(full), 20)} {
			d := fresh(t, wait, l...)
			stands(t, d, 0, false)
			quiet(t, d, 2*wait+1)
			stands(t, d, 0, false)
		}
	}
}

// TestNoRounds: all of none were said.
func TestNoRounds(t *testing.T) {
	for _, l := range [][]api.Round{nil, {}} {
		d := fresh(t, 1, l...)
		for range 3 {
			stands(t, d, 0, true)
			noNext(t, d)
			quiet(t, d, 3)
			deaf(t, d, yes(1, 0), api.ErrState)
		}
		stands(t, d, 0, true)
	}
}

// TestNext: switch by switch, rising; of each its ops in their order, by numbers of its own.
func TestNext(t *testing.T) {
	d := fresh(t, 3, three())
	says(t, d, toAll(0)...)
	stands(t, d, 1, false, 2, 4, 6)
}

func TestNextOfEachSwitch(t *testing.T) {
	for a := 1; a <= 6; a++ {
		d := fresh(t, 1, api.Round{take(a, 5)})
		says(t, d, do(0, 0, take(a, 5)), ask(a, 0, 1))
		stands(t, d, 1, false, a)
		hears(t, d, 0, a)
		stands(t, d, 1, true)
	}
	var falling api.Round
	var want []api.Msg
	for a := 6; a >= 1; a-- {
		falling = append(falling, put(a, a))
		want = append(want, do(0, 0, put(7-a, 7-a)), ask(7-a, 0, 1))
	}
	d := fresh(t, 1, falling)
	says(t, d, want...)
	stands(t, d, 1, false, 1, 2, 3, 4, 5, 6)
}

// TestRoundsInTheirOrder: up to the last of as many as there may be, numbered from 0.
func TestRoundsInTheirOrder(t *testing.T) {
	d := fresh(t, 1, many(20)...)
	for i := range 20 {
		a := i%6 + 1
		stands(t, d, i, false)
		says(t, d, do(i, 0, put(a, i)), ask(a, i, 1))
		stands(t, d, i+1, false, a)
		noNext(t, d)
		stands(t, d, i+1, false, a)
		hears(t, d, i, a)
	}
	for range 3 {
		stands(t, d, 20, true)
		noNext(t, d)
	}
}

// TestNextWaitsForAll: whichever switch is the last to answer.
func TestNextWaitsForAll(t *testing.T) {
	for _, order := range [][]int{{2, 4, 6}, {2, 6, 4}, {4, 2, 6}, {4, 6, 2}, {6, 2, 4}, {6, 4, 2}} {
		d := fresh(t, 7, three(), api.Round{put(2, 1)})
		says(t, d, toAll(0)...)
		left := []int{2, 4, 6}
		for _, a := range order {
			noNext(t, d)
			stands(t, d, 1, false, left...)
			hears(t, d, 0, a)
			left = slices.DeleteFunc(left, func(b int) bool { return a == b })
			stands(t, d, 1, false, left...)
		}
		says(t, d, do(1, 0, put(2, 1)), ask(2, 1, 1))
		stands(t, d, 2, false, 2)
		hears(t, d, 1, 2)
		stands(t, d, 2, true)
		noNext(t, d)
	}
}

// TestOpsAsTheyAre: whether they can be done is not asked, and those that are alike are said each.
func TestOpsAsTheyAre(t *testing.T) {
	young := api.Op{Switch: 3, Add: true, Rule: api.Rule{Prio: 99, Cube: api.Cube{Mask: 15, Bits: 9}, Out: 4, Set: 15, Value: 6}}
	drop := api.Op{Switch: 3, Add: true, Rule: api.Rule{}}
	d := fresh(t, 1, api.Round{put(3, 1), put(3, 1), take(3, 2), put(3, 1), young, drop, take(3, 2)})
	says(t, d, do(0, 0, put(3, 1)), do(0, 1, put(3, 1)), do(0, 2, take(3, 2)), do(0, 3, put(3, 1)), do(0, 4, young), do(0, 5, drop), do(0, 6, take(3, 2)), ask(3, 0, 7))
}

// TestFullRound: as many ops as there may be, all of one switch, or of two, with messages that may be written.
func TestFullRound(t *testing.T) {
	for _, n := range []int{200, 100, 199} {
		one, other := puts(5, n), puts(2, 200-n)
		d := fresh(t, 100, slices.Concat(one, other))
		var want []api.Msg
		for i, o := range other {
			want = append(want, do(0, i, o))
		}
		if n < 200 {
			want = append(want, ask(2, 0, 200-n))
		}
		for i, o := range one {
			want = append(want, do(0, i, o))
		}
		want = append(want, ask(5, 0, n))
		says(t, d, want...)
		quiet(t, d, 99)
		ticks(t, d, want...)
		for _, m := range want {
			if _, err := wire.Encode(m); err != nil {
				t.Errorf("%v can't be written: %v", m, err)
			}
		}
	}
}

// TestEmptyRounds: they are said like others, and nobody is to answer.
func TestEmptyRounds(t *testing.T) {
	d := fresh(t, 1, nil, api.Round{put(1, 1)}, api.Round{}, nil, api.Round{put(1, 2)}, nil)
	says(t, d)
	stands(t, d, 1, false)
	deaf(t, d, yes(1, 0), api.ErrState)
	quiet(t, d, 3)
	says(t, d, do(1, 0, put(1, 1)), ask(1, 1, 1))
	hears(t, d, 1, 1)
	stands(t, d, 2, false)
	says(t, d)
	stands(t, d, 3, false)
	deaf(t, d, yes(1, 1), api.ErrState)
	says(t, d)
	stands(t, d, 4, false)
	says(t, d, do(4, 0, put(1, 2)), ask(1, 4, 1))
	noNext(t, d)
	hears(t, d, 4, 1)
	stands(t, d, 5, false)
	says(t, d)
	stands(t, d, 6, true)
	noNext(t, d)
	quiet(t, d, 3)
	stands(t, d, 6, true)
}

// TestTick: every wait ticks, again and again.
func TestTick(t *testing.T) {
	for _, wait := range []int{1, 2, 3, 7, 99, 100} {
		d := fresh(t, wait, three())
		quiet(t, d, 2*wait+1)
		says(t, d, toAll(0)...)
		for range 4 {
			quiet(t, d, wait-1)
			ticks(t, d, toAll(0)...)
			stands(t, d, 1, false, 2, 4, 6)
		}
	}
}

// TestTickForThoseThatAreLeft: who has answered is told no more, and no tick comes later by it.
func TestTickForThoseThatAreLeft(t *testing.T) {
	d := fresh(t, 3, three())
	says(t, d, toAll(0)...)
	quiet(t, d, 2)
	hears(t, d, 0, 4)
	ticks(t, d, slices.Concat(to2(0), to6(0))...)
	quiet(t, d, 1)
	hears(t, d, 0, 2)
	quiet(t, d, 1)
	ticks(t, d, to6(0)...)
	quiet(t, d, 2)
	ticks(t, d, to6(0)...)
	quiet(t, d, 2)
	hears(t, d, 0, 6)
	quiet(t, d, 10)
	stands(t, d, 1, true)
}

// TestTicksAreOfARound: those ahead of it do not count for it, however many they were.
func TestTicksAreOfARound(t *testing.T) {
	for early := range 9 {
		for late := range 9 {
			d := fresh(t, 4, three(), three())
			quiet(t, d, early)
			says(t, d, toAll(0)...)
			quiet(t, d, early%4)
			hears(t, d, 0, 2, 4, 6)
			quiet(t, d, late)
			says(t, d, toAll(1)...)
			for range 3 {
				quiet(t, d, 3)
				ticks(t, d, toAll(1)...)
			}
		}
	}
}

// TestNothingElseIsATick: nor does anything put one off.
func TestNothingElseIsATick(t *testing.T) {
	d := fresh(t, 3, three(), three())
	says(t, d, toAll(0)...)
	for range 5 {
		for i := range 3 {
			noNext(t, d)
			deaf(t, d, yes(1, 0), api.ErrState)
			deaf(t, d, yes(2, 1), api.ErrState)
			deaf(t, d, ask(2, 0, 1), api.ErrShape)
			stands(t, d, 1, false, 2, 4, 6)
			if i < 2 {
				quiet(t, d, 1)
			}
		}
		ticks(t, d, toAll(0)...)
	}
}

// TestTickSaysTheRoundAhead: of several rounds the one that was said last.
func TestTickSaysTheRoundAhead(t *testing.T) {
	d := fresh(t, 1, api.Round{put(1, 1), put(3, 1)}, three(), api.Round{put(5, 1)})
	says(t, d, do(0, 0, put(1, 1)), ask(1, 0, 1), do(0, 0, put(3, 1)), ask(3, 0, 1))
	hears(t, d, 0, 1)
	ticks(t, d, do(0, 0, put(3, 1)), ask(3, 0, 1))
	hears(t, d, 0, 3)
	quiet(t, d, 2)
	says(t, d, toAll(1)...)
	ticks(t, d, toAll(1)...)
	hears(t, d, 1, 6, 2, 4)
	says(t, d, do(2, 0, put(5, 1)), ask(5, 2, 1))
	ticks(t, d, do(2, 0, put(5, 1)), ask(5, 2, 1))
	hears(t, d, 2, 5)
	quiet(t, d, 2)
	stands(t, d, 3, true)
}

// TestHearOnce: a Yes that comes again is of a switch that is not left.
func TestHearOnce(t *testing.T) {
	d := fresh(t, 1, three(), three())
	says(t, d, toAll(0)...)
	hears(t, d, 0, 4)
	deaf(t, d, yes(4, 0), api.ErrState)
	stands(t, d, 1, false, 2, 6)
	hears(t, d, 0, 6, 2)
	for _, a := range []int{2, 4, 6} {
		deaf(t, d, yes(a, 0), api.ErrState)
	}
	stands(t, d, 1, false)
	says(t, d, toAll(1)...)
	// One of the round ahead counts for nothing, though its switch is left again.
	for _, a := range []int{2, 4, 6} {
		deaf(t, d, yes(a, 0), api.ErrState)
	}
	stands(t, d, 2, false, 2, 4, 6)
	hears(t, d, 1, 2, 4, 6)
	stands(t, d, 2, true)
	deaf(t, d, yes(2, 1), api.ErrState)
	deaf(t, d, yes(2, 0), api.ErrState)
	stands(t, d, 2, true)
}
