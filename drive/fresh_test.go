package drive

import (
	"slices"
	"testing"

	"railpoint/api"
)

// spoil writes over a list, and over what lies behind its length.
func spoil[E any](l []E, with E) {
	for i := range l[:cap(l)] {
		l[:cap(l)][i] = with
	}
}

// roomy has rounds with wrong ops, and wrong rounds, behind their lengths.
func roomy(l ...api.Round) []api.Round {
	bad := put(-9, -9)
	var out []api.Round
	for _, r := range l {
		out = append(out, append(slices.Clone(r), bad, bad)[:len(r)])
	}
	return append(out, api.Round{bad}, api.Round{bad})[:len(l)]
}

// whole has all of rounds, and of what lies behind their lengths.
func whole(l []api.Round) (out []api.Round) {
	for _, r := range l[:cap(l)] {
		out = append(out, slices.Clone(r[:cap(r)]))
	}
	return out
}

// goesThrough has a drive say these rounds from its beginning to its end, with a tick in each.
func goesThrough(t *testing.T, d *Drive) {
	t.Helper()
	for i := range 2 {
		says(t, d, toAll(i)...)
		quiet(t, d, 1)
		ticks(t, d, toAll(i)...)
		hears(t, d, i, 4, 2, 6)
	}
	stands(t, d, 2, true)
}

// TestTheRoundsAreNotKept: what becomes of them is not seen by the drive, nor the other way round.
func TestTheRoundsAreNotKept(t *testing.T) {
	l := roomy(three(), three())
	was := whole(l)
	d := fresh(t, 2, l...)
	goesThrough(t, d)
	if !slices.EqualFunc(whole(l), was, slices.Equal) {
		t.Errorf("the rounds handed in are now %v, were %v", whole(l), was)
	}
	d = fresh(t, 2, l...)
	for _, r := range l {
		spoil(r, put(5, 77))
	}
	spoil(l, api.Round{put(5, 78)})
	goesThrough(t, d)
}

// TestRoundsChangedOnTheWay: also once the drive has begun.
func TestRoundsChangedOnTheWay(t *testing.T) {
	l := rounds(three(), three())
	d := fresh(t, 2, l...)
	says(t, d, toAll(0)...)
	spoil(l[0], put(5, 77))
	spoil(l[1], put(5, 77))
	quiet(t, d, 1)
	ticks(t, d, toAll(0)...)
	hears(t, d, 0, 2, 4, 6)
	says(t, d, toAll(1)...)
}

// TestWhatComesOutIsFresh: what is written over it is not seen by the drive.
func TestWhatComesOutIsFresh(t *testing.T) {
	d := fresh(t, 1, three(), three())
	for i := range 2 {
		said, err := d.Next()
		if !slices.Equal(said, toAll(i)) || err != nil {
			t.Errorf("Next: %v, %v", said, err)
		}
		again := d.Tick()
		spoil(said, api.Msg{Kind: -5})
		if !slices.Equal(again, toAll(i)) {
			t.Errorf("writing over what was said left %v of what was said again", again)
		}
		spoil(again, api.Msg{Kind: -5})
		one, other := d.Left(), d.Left()
		spoil(one, -5)
		if !slices.Equal(other, []int{2, 4, 6}) {
			t.Errorf("writing over one list left %v of another one", other)
		}
		_ = append(other, 5)
		ticks(t, d, toAll(i)...)
		hears(t, d, i, 2)
		if !slices.Equal(other, []int{2, 4, 6}) {
			t.Errorf("hearing an answer left %v of a list that came out ahead of it", other)
		}
		stands(t, d, i+1, false, 4, 6)
		hears(t, d, i, 4, 6)
		spoil(d.Left(), -5)
		stands(t, d, i+1, i == 1)
	}
}

// TestDrivesAreApart: what one hears, another one has not heard, though they were made of one list.
func TestDrivesAreApart(t *testing.T) {
	l := rounds(three(), three())
	one, other := fresh(t, 2, l...), fresh(t, 2, l...)
	says(t, one, toAll(0)...)
	stands(t, other, 0, false)
	quiet(t, one, 1)
	says(t, other, toAll(0)...)
	hears(t, one, 0, 2)
	stands(t, other, 1, false, 2, 4, 6)
	ticks(t, one, slices.Concat(to4(0), to6(0))...)
	quiet(t, other, 1)
	ticks(t, other, toAll(0)...)
	hears(t, one, 0, 4, 6)
	goesOn(t, amid(t))
	says(t, one, toAll(1)...)
	stands(t, other, 1, false, 2, 4, 6)
}

// TestAskingChangesNothing: however often what stands is asked.
func TestAskingChangesNothing(t *testing.T) {
	d := amid(t)
	for range 5 {
		stands(t, d, 2, false, 2, 6)
	}
	goesOn(t, d)
}

// TestAnswersHangOnTheDriveAlone: what was asked of others before is not to be told from what is answered now.
func TestAnswersHangOnTheDriveAlone(t *testing.T) {
	for range 3 {
		TestNoRounds(t)
		TestRoundsInTheirOrder(t)
		TestTickForThoseThatAreLeft(t)
		TestHearOfAnotherRound(t)
	}
}
