package agent

import (
	"slices"
	"testing"

	"railpoint/api"
)

// spoil writes over a list, and over what lies behind its length.
func spoil[E any](l []E, with E) {
	for i := range l[:cap(l)] {
		l[:cap(l)][i] = with
	}
}

// roomy has a table with wrong rules behind its length.
func roomy(l api.Table) api.Table {
	return append(slices.Clone(l), api.Rule{Prio: -9}, api.Rule{Prio: -9})[:len(l)]
}

// TestTheTableIsNotKept: what becomes of it is not seen by the agent, nor the other way round.
func TestTheTableIsNotKept(t *testing.T) {
	for n := range 13 {
		l := roomy(distinct(n))
		was := slices.Clone(l[:cap(l)])
		a := fresh(t, 1, l)
		hears(t, a, add(1, 0, 0, of(50, 0, 0)), ask(1, 0, 1), ask(1, 1, 0))
		if n > 0 {
			hears(t, a, take(1, 2, 0, of(0, 15, 0)), ask(1, 2, 1))
		}
		for range 3 {
			a.Work()
			spoil(a.Table(), api.Rule{Prio: -5})
		}
		rests(t, a)
		if !slices.Equal(l[:cap(l)], was) {
			t.Errorf("the table handed in is now %v, was %v", l[:cap(l)], was)
		}
		a = fresh(t, 1, l)
		spoil(l, api.Rule{Prio: -5})
		tableIs(t, a, distinct(n)...)
		hears(t, a, ask(1, 0, 0))
		works(t, a, 1, 0)
		tableIs(t, a, distinct(n)...)
	}
}

// TestWhatComesOutIsFresh: what is written over it is not seen by the agent.
func TestWhatComesOutIsFresh(t *testing.T) {
	a := fresh(t, 2, distinct(2))
	var rules api.Table
	for i := range 6 {
		spoil(a.Table(), api.Rule{Prio: -5})
		spoil(a.Done(), -5)
		hears(t, a, add(2, i, 0, of(50+i, 0, 0)), ask(2, i, 1))
		kept, done := a.Table(), a.Done()
		said, err := a.Work()
		if !slices.Equal(said, []api.Msg{yes(2, i)}) || err != nil {
			t.Errorf("Work: %v, %v", said, err)
		}
		// What came out ahead of the work is not changed by it.
		if !slices.Equal(kept, append(distinct(2), rules...)) || len(done) != i {
			t.Errorf("ahead of the work there were %v, %v", kept, done)
		}
		spoil(said, api.Msg{Kind: -5})
		again, _ := a.Hear(ask(2, i, 1))
		spoil(again, api.Msg{Kind: -5})
		saysYes(t, a, ask(2, i, 1))
		rules = append(rules, of(50+i, 0, 0))
		_ = append(a.Table(), of(99, 0, 0))
		_ = append(a.Done(), 19)
		tableIs(t, a, append(distinct(2), rules...)...)
	}
	doneAre(t, a, 0, 1, 2, 3, 4, 5)
}

// TestTwoAnswersShareNoMemory: not even those that come one right behind the other.
func TestTwoAnswersShareNoMemory(t *testing.T) {
	a := amid(t)
	one, other := a.Table(), a.Table()
	spoil(one, api.Rule{Prio: -5})
	if !slices.Equal(other, append(distinct(2), of(50, 0, 0))) {
		t.Errorf("writing over one table left %v of another one", other)
	}
	first, second := a.Done(), a.Done()
	spoil(first, -5)
	if !slices.Equal(second, []int{3}) {
		t.Errorf("writing over one list left %v of another one", second)
	}
	said, _ := a.Hear(ask(2, 3, 1))
	again, _ := a.Hear(ask(2, 3, 1))
	spoil(said, api.Msg{Kind: -5})
	if !slices.Equal(again, []api.Msg{yes(2, 3)}) {
		t.Errorf("writing over one answer left %v of another one", again)
	}
	goesOn(t, a)
}

// TestAgentsAreApart: what one hears, another one has not heard.
func TestAgentsAreApart(t *testing.T) {
	l := distinct(3)
	one, other := fresh(t, 2, l), fresh(t, 2, l)
	hears(t, one, add(2, 0, 0, of(50, 0, 0)), ask(2, 0, 1))
	stands(t, other, l, nil, -1)
	works(t, one, 2, 0)
	stands(t, other, l, nil, -1)
	hears(t, other, ask(2, 0, 0))
	works(t, other, 2, 0)
	stands(t, one, append(distinct(3), of(50, 0, 0)), map[int]int{0: 1}, -1, 0)
	stands(t, other, l, nil, -1, 0)
}

// TestAskingChangesNothing: however often what stands is asked.
func TestAskingChangesNothing(t *testing.T) {
	a := amid(t)
	for range 5 {
		amidStands(t, a)
	}
	goesOn(t, a)
}

// TestAnswersHangOnTheAgentAlone: what was asked of others before is not to be told from what is answered now.
func TestAnswersHangOnTheAgentAlone(t *testing.T) {
	for range 3 {
		TestNew(t)
		TestRoundsAreApart(t)
		TestWorkByIndex(t)
		TestDoneAsTheyWere(t)
		TestHearForAnotherSwitch(t)
	}
}

// TestOpsThatAreDoneGo: no more is kept than is needed.
func TestOpsThatAreDoneGo(t *testing.T) {
	a := fresh(t, 1, nil)
	hears(t, a, add(1, 4, 0, of(50, 0, 0)), add(1, 4, 1, of(51, 0, 0)), add(1, 4, 9, of(52, 0, 0)), ask(1, 4, 2))
	works(t, a, 1, 4)
	hears(t, a, add(1, 4, 10, of(53, 0, 0)))
	if n := len(a.parts[4].ops); n != 0 {
		t.Errorf("%d ops of a round that is done are kept", n)
	}
	heardAre(t, a, map[int]int{4: 3})
}
