package agent

import (
	"slices"
	"testing"

	"railpoint/api"
	"railpoint/plain"
)

// of is a right rule that goes out at port 1.
func of(prio, mask, bits int) api.Rule {
	return api.Rule{Prio: prio, Cube: api.Cube{Mask: mask, Bits: bits}, Out: 1}
}

// distinct has n right rules, each with a Prio of its own.
func distinct(n int) (l api.Table) {
	for i := range n {
		l = append(l, of(i, 15, i%16))
	}
	return l
}

// add and take are messages with one op, ask and yes those without any.
func add(to, round, index int, r api.Rule) api.Msg {
	return api.Msg{Kind: 1, Switch: to, Round: round, Index: index, Op: api.Op{Switch: to, Add: true, Rule: r}}
}

func take(to, round, index int, r api.Rule) api.Msg {
	return api.Msg{Kind: 1, Switch: to, Round: round, Index: index, Op: api.Op{Switch: to, Rule: r}}
}

func ask(to, round, size int) api.Msg {
	return api.Msg{Kind: 2, Switch: to, Round: round, Index: size}
}

func yes(from, round int) api.Msg { return api.Msg{Kind: 3, Switch: from, Round: round} }

// fresh is an agent that has heard nothing.
func fresh(t *testing.T, number int, l api.Table) *Agent {
	t.Helper()
	a, err := New(number, l)
	if a == nil || err != nil {
		t.Fatalf("New(%d, %v): %v, %v", number, l, a, err)
	}
	return a
}

// hears has an agent hear messages, to none of which it answers anything.
func hears(t *testing.T, a *Agent, l ...api.Msg) {
	t.Helper()
	for _, m := range l {
		if got, err := a.Hear(m); len(got) != 0 || err != nil {
			t.Errorf("Hear(%v): %v, %v, want nothing", m, got, err)
		}
	}
}

// saysYes has an agent hear an Ask that it answers.
func saysYes(t *testing.T, a *Agent, m api.Msg) {
	t.Helper()
	want := []api.Msg{yes(m.Switch, m.Round)}
	if got, err := a.Hear(m); !slices.Equal(got, want) || err != nil {
		t.Errorf("Hear(%v): %v, %v, want %v", m, got, err, want)
	}
}

// works has an agent do its rounds that are ready: just these, one behind the other.
func works(t *testing.T, a *Agent, number int, rounds ...int) {
	t.Helper()
	for _, i := range rounds {
		readyIs(t, a, i)
		want := []api.Msg{yes(number, i)}
		if got, err := a.Work(); !slices.Equal(got, want) || err != nil {
			t.Errorf("Work: %v, %v, want %v", got, err, want)
		}
	}
	rests(t, a)
}

// rests asks that an agent has nothing to do.
func rests(t *testing.T, a *Agent) {
	t.Helper()
	readyIs(t, a, -1)
	if got, err := a.Work(); got != nil || plain.Told(err) != api.ErrState {
		t.Errorf("Work: %v, %v, want %v", got, err, api.ErrState)
	}
}

func readyIs(t *testing.T, a *Agent, want int) {
	t.Helper()
	if got := a.Ready(); got != want {
		t.Errorf("Ready: %d, want %d", got, want)
	}
}

func tableIs(t *testing.T, a *Agent, want ...api.Rule) {
	t.Helper()
	if got := a.Table(); !slices.Equal(got, want) {
		t.Errorf("Table: %v, want %v", got, want)
	}
}

func doneAre(t *testing.T, a *Agent, want ...int) {
	t.Helper()
	if got := a.Done(); !slices.Equal(got, want) {
		t.Errorf("Done: %v, want %v", got, want)
	}
}

// heardAre asks how many ops of rounds are kept; of all others there are none.
func heardAre(t *testing.T, a *Agent, want map[int]int) {
	t.Helper()
	for i := -3; i < 25; i++ {
		if got := a.Heard(i); got != want[i] {
			t.Errorf("Heard(%d): %d, want %d", i, got, want[i])
		}
	}
}

// stands asks all that an agent tells.
func stands(t *testing.T, a *Agent, table api.Table, heard map[int]int, ready int, done ...int) {
	t.Helper()
	tableIs(t, a, table...)
	heardAre(t, a, heard)
	readyIs(t, a, ready)
	doneAre(t, a, done...)
}

func TestNew(t *testing.T) {
	for number := 1; number <= 6; number++ {
		for _, l := range []api.Table{nil, {}, {{}}, distinct(1), distinct(3), distinct(12)} {
			a := fresh(t, number, l)
			stands(t, a, l, nil, -1)
			works(t, a, number)
			stands(t, a, l, nil, -1)
		}
	}
}

func TestDoIsKept(t *testing.T) {
	a := fresh(t, 3, distinct(2))
	hears(t, a, add(3, 4, 0, of(50, 0, 0)))
	stands(t, a, distinct(2), map[int]int{4: 1}, -1)
	hears(t, a, add(3, 4, 7, of(50, 0, 0)), take(3, 4, 6, of(1, 15, 1)))
	stands(t, a, distinct(2), map[int]int{4: 3}, -1)
	// The first and the last of all that a message may tell.
	hears(t, a, add(3, 0, 200, of(51, 0, 0)), add(3, 0, 0, of(51, 0, 0)), take(3, 19, 200, of(51, 0, 0)), take(3, 19, 199, of(51, 0, 0)))
	stands(t, a, distinct(2), map[int]int{0: 2, 4: 3, 19: 2}, -1)
	works(t, a, 3)
}

func TestDoOfAnIndexThatIsKept(t *testing.T) {
	a := fresh(t, 2, nil)
	first := add(2, 1, 0, of(50, 0, 0))
	hears(t, a, first, first, add(2, 1, 0, of(60, 0, 0)), take(2, 1, 0, of(50, 0, 0)))
	heardAre(t, a, map[int]int{1: 1})
	hears(t, a, ask(2, 1, 1), add(2, 1, 0, of(70, 0, 0)))
	stands(t, a, nil, map[int]int{1: 1}, 1)
	works(t, a, 2, 1)
	tableIs(t, a, of(50, 0, 0))
}

// TestRoundsAreApart: one index in several rounds is an op of each.
func TestRoundsAreApart(t *testing.T) {
	a := fresh(t, 6, nil)
	for i := range 20 {
		hears(t, a, add(6, i, 0, of(20+i, 0, 0)))
		readyIs(t, a, -1)
	}
	for i := 19; i >= 12; i-- {
		hears(t, a, ask(6, i, 1))
		readyIs(t, a, i)
	}
	works(t, a, 6, 12, 13, 14, 15, 16, 17, 18, 19)
	tableIs(t, a, of(32, 0, 0), of(33, 0, 0), of(34, 0, 0), of(35, 0, 0), of(36, 0, 0), of(37, 0, 0), of(38, 0, 0), of(39, 0, 0))
	doneAre(t, a, 12, 13, 14, 15, 16, 17, 18, 19)
	for i := range 20 {
		if a.Heard(i) != 1 {
			t.Errorf("Heard(%d): %d, want 1", i, a.Heard(i))
		}
	}
}

// TestFirstAskCounts: later ones neither make a round more, nor less.
func TestFirstAskCounts(t *testing.T) {
	a := fresh(t, 1, nil)
	hears(t, a, ask(1, 0, 2), ask(1, 0, 1), ask(1, 0, 0), add(1, 0, 0, of(50, 0, 0)), ask(1, 0, 1))
	rests(t, a)
	hears(t, a, add(1, 0, 1, of(51, 0, 0)))
	works(t, a, 1, 0)
	tableIs(t, a, of(50, 0, 0), of(51, 0, 0))

	hears(t, a, ask(1, 3, 0), ask(1, 3, 5))
	works(t, a, 1, 3)
	hears(t, a, ask(1, 4, 1), ask(1, 4, 5), add(1, 4, 0, of(52, 0, 0)))
	works(t, a, 1, 4)
	stands(t, a, api.Table{of(50, 0, 0), of(51, 0, 0), of(52, 0, 0)}, map[int]int{0: 2, 4: 1}, -1, 0, 3, 4)
}

// TestReadyAsksForEachIndex: as many ops as there are to be are not enough, if one is another one.
func TestReadyAsksForEachIndex(t *testing.T) {
	for missing := range 4 {
		a := fresh(t, 1, nil)
		hears(t, a, ask(1, 2, 4))
		for i := range 6 {
			if i != missing {
				hears(t, a, add(1, 2, i, of(50+i, 0, 0)))
				rests(t, a)
			}
		}
		stands(t, a, nil, map[int]int{2: 5}, -1)
		hears(t, a, add(1, 2, missing, of(50+missing, 0, 0)))
		stands(t, a, nil, map[int]int{2: 6}, 2)
	}
}

// TestReadyInAnyOrder: the Ask may come ahead of the ops, amid them, or behind.
func TestReadyInAnyOrder(t *testing.T) {
	l := []api.Msg{ask(5, 8, 3), add(5, 8, 0, of(50, 0, 0)), add(5, 8, 1, of(51, 0, 0)), add(5, 8, 2, of(52, 0, 0))}
	for i := range 256 {
		places := []int{i & 3, i >> 2 & 3, i >> 4 & 3, i >> 6 & 3}
		a := fresh(t, 5, nil)
		heard := map[int]int{}
		for _, p := range places {
			hears(t, a, l[p])
			heard[p]++
			if len(heard) < 4 {
				readyIs(t, a, -1)
			}
		}
		if len(heard) == 4 {
			works(t, a, 5, 8)
			stands(t, a, api.Table{of(50, 0, 0), of(51, 0, 0), of(52, 0, 0)}, map[int]int{8: 3}, -1, 8)
		}
	}
}

// TestReadyIsTheLeast: not the first that was whole, nor the first that was heard of.
func TestReadyIsTheLeast(t *testing.T) {
	a := fresh(t, 4, nil)
	hears(t, a, ask(4, 9, 0))
	readyIs(t, a, 9)
	hears(t, a, ask(4, 19, 0), ask(4, 5, 1), add(4, 2, 0, of(50, 0, 0)))
	readyIs(t, a, 9)
	hears(t, a, add(4, 5, 0, of(51, 0, 0)))
	readyIs(t, a, 5)
	hears(t, a, ask(4, 0, 0))
	works(t, a, 4, 0, 5, 9, 19)
	// Lesser ones than those that are done may come to be ready yet.
	hears(t, a, ask(4, 1, 0), ask(4, 2, 1))
	works(t, a, 4, 1, 2)
	stands(t, a, api.Table{of(51, 0, 0), of(50, 0, 0)}, map[int]int{2: 1, 5: 1}, -1, 0, 5, 9, 19, 1, 2)
}

// TestWorkByIndex: not as they were heard.
func TestWorkByIndex(t *testing.T) {
	a := fresh(t, 2, api.Table{of(10, 0, 0), of(20, 0, 0)})
	young := api.Rule{Prio: 10, Out: 4, Set: 3, Value: 1}
	hears(t, a, add(2, 0, 3, of(31, 0, 0)), add(2, 0, 1, young), ask(2, 0, 4), add(2, 0, 2, of(30, 0, 0)))
	// Heard last and done first: the other way round what comes would clash with it.
	hears(t, a, take(2, 0, 0, of(10, 0, 0)))
	works(t, a, 2, 0)
	tableIs(t, a, of(20, 0, 0), young, of(30, 0, 0), of(31, 0, 0))
}

// failing has the ops of rounds that can't be done on the rules 10 and 20, with the bad one at each place.
func failing() (out [][]api.Msg) {
	x, y := add(2, 7, 0, of(50, 0, 0)), add(2, 7, 0, of(51, 0, 0))
	for _, bad := range []api.Msg{
		add(2, 7, 0, of(20, 0, 0)),
		add(2, 7, 0, api.Rule{Prio: 20, Out: 3}),
		take(2, 7, 0, of(30, 0, 0)),
		take(2, 7, 0, api.Rule{Prio: 20, Out: 3}),
	} {
		out = append(out, []api.Msg{bad, x, y}, []api.Msg{x, bad, y}, []api.Msg{x, y, bad})
	}
	// Ops that fail by those ahead of them: a rule comes twice, goes twice, or goes ahead of coming.
	gone := take(2, 7, 0, of(10, 0, 0))
	return append(out, []api.Msg{x, y, x}, []api.Msg{gone, x, gone}, []api.Msg{take(2, 7, 0, of(50, 0, 0)), x, y})
}

// TestWorkStaysWithAnError: none of the ops is done, wherever the one is that can't be; the round is.
func TestWorkStaysWithAnError(t *testing.T) {
	was := api.Table{of(10, 0, 0), of(20, 0, 0)}
	for _, l := range failing() {
		a := fresh(t, 2, was)
		for i, m := range l {
			m.Index = i
			hears(t, a, m)
		}
		hears(t, a, ask(2, 7, 3))
		works(t, a, 2, 7)
		stands(t, a, was, map[int]int{7: 3}, -1, 7)
		saysYes(t, a, ask(2, 7, 3))
		// Another round goes on from the table that stayed.
		hears(t, a, take(2, 8, 0, of(10, 0, 0)), ask(2, 8, 1))
		works(t, a, 2, 8)
		stands(t, a, api.Table{of(20, 0, 0)}, map[int]int{7: 3, 8: 1}, -1, 7, 8)
	}
}

// TestWorkFull: up to 12 rules, and no further.
func TestWorkFull(t *testing.T) {
	a := fresh(t, 1, distinct(10))
	for i := range 3 {
		hears(t, a, add(1, 0, i, of(50+i, 0, 0)))
	}
	hears(t, a, ask(1, 0, 3), add(1, 1, 0, of(50, 0, 0)), add(1, 1, 1, of(51, 0, 0)), ask(1, 1, 2))
	works(t, a, 1, 0, 1)
	tableIs(t, a, append(distinct(10), of(50, 0, 0), of(51, 0, 0))...)
}

// TestWorkOpsBeyond: ops of indexes that a round has not are kept, and not done.
func TestWorkOpsBeyond(t *testing.T) {
	a := fresh(t, 1, nil)
	hears(t, a, add(1, 0, 1, of(51, 0, 0)), add(1, 0, 0, of(50, 0, 0)), ask(1, 0, 1), take(1, 0, 200, of(99, 0, 0)))
	stands(t, a, nil, map[int]int{0: 3}, 0)
	works(t, a, 1, 0)
	stands(t, a, api.Table{of(50, 0, 0)}, map[int]int{0: 3}, -1, 0)
	hears(t, a, add(1, 3, 0, of(52, 0, 0)), ask(1, 3, 0))
	works(t, a, 1, 3)
	stands(t, a, api.Table{of(50, 0, 0)}, map[int]int{0: 3, 3: 1}, -1, 0, 3)
}

// TestWorkOfMany: a round of 200 ops, heard from the last one on.
func TestWorkOfMany(t *testing.T) {
	a := fresh(t, 1, nil)
	hears(t, a, ask(1, 19, 200))
	for i := 199; i >= 0; i-- {
		readyIs(t, a, -1)
		// Each rule goes again, but for the last one.
		m := add(1, 19, i, of(i/2%100, 0, 0))
		if i%2 == 1 {
			m = take(1, 19, i, of(i/2%100, 0, 0))
		}
		if i == 199 {
			m = add(1, 19, i, of(7, 8, 8))
		}
		hears(t, a, m)
	}
	works(t, a, 1, 19)
	stands(t, a, api.Table{of(99, 0, 0), of(7, 8, 8)}, map[int]int{19: 200}, -1, 19)
}

func TestAskOfADoneRound(t *testing.T) {
	a := fresh(t, 5, nil)
	hears(t, a, ask(5, 6, 1), add(5, 6, 0, of(50, 0, 0)), ask(5, 6, 1))
	works(t, a, 5, 6)
	for _, size := range []int{1, 1, 0, 2, 200, 1} {
		saysYes(t, a, ask(5, 6, size))
		stands(t, a, api.Table{of(50, 0, 0)}, map[int]int{6: 1}, -1, 6)
	}
	rests(t, a)
	// Others are asked as before.
	hears(t, a, ask(5, 5, 1), ask(5, 7, 1))
	rests(t, a)
}

func TestDoOfADoneRound(t *testing.T) {
	a := fresh(t, 5, nil)
	hears(t, a, ask(5, 6, 1), add(5, 6, 0, of(50, 0, 0)))
	works(t, a, 5, 6)
	hears(t, a, add(5, 6, 0, of(50, 0, 0)), add(5, 6, 0, of(51, 0, 0)), take(5, 6, 1, of(50, 0, 0)), add(5, 6, 200, of(52, 0, 0)))
	rests(t, a)
	stands(t, a, api.Table{of(50, 0, 0)}, map[int]int{6: 1}, -1, 6)
}

// TestDoneAsTheyWere: in the order in which they were done, all of them.
func TestDoneAsTheyWere(t *testing.T) {
	a := fresh(t, 3, nil)
	var want []int
	for i := range 20 {
		round := (i*7 + 3) % 20
		hears(t, a, ask(3, round, 0))
		works(t, a, 3, round)
		want = append(want, round)
		doneAre(t, a, want...)
	}
	for i := range 20 {
		saysYes(t, a, ask(3, i, 0))
	}
	doneAre(t, a, want...)
	heardAre(t, a, nil)
}

// TestThereAndBack: a round, and one that takes it back.
func TestThereAndBack(t *testing.T) {
	a := fresh(t, 2, distinct(3))
	hears(t, a, take(2, 0, 0, of(2, 15, 2)), add(2, 0, 1, of(2, 14, 2)), ask(2, 0, 2))
	hears(t, a, take(2, 1, 0, of(2, 14, 2)), add(2, 1, 1, of(2, 15, 2)), ask(2, 1, 2))
	works(t, a, 2, 0, 1)
	stands(t, a, distinct(3), map[int]int{0: 2, 1: 2}, -1, 0, 1)
}
