package field

import (
	"slices"
	"testing"

	"railpoint/api"
)

// spoil writes over a list, and over what lies behind its length.
func spoil[E any](l []E, with E) {
	for i := range l[:cap(l)] {
		l[:cap(l)][i] = with
	}
}

// roomy has wrong things behind a list's length.
func roomy[E any](l []E, bad E) []E {
	return append(slices.Clone(l), bad, bad)[:len(l)]
}

// Things that are right nowhere.
var (
	badRule = api.Rule{Prio: -9}
	badOp   = api.Op{Switch: -9}
	badLink = api.Link{A: api.Spot{Switch: -9}}
	badHost = api.Host{Name: "-"}
)

// roomyNet has them behind the length of each list of a net.
func roomyNet(n api.Net) api.Net {
	n.Topo.Links = roomy(n.Topo.Links, badLink)
	n.Topo.Hosts = roomy(n.Topo.Hosts, badHost)
	var l []api.Table
	for _, t := range n.Tables {
		l = append(l, roomy(t, badRule))
	}
	return with(n, roomy(l, api.Table{badRule})...)
}

// roomyRounds has them behind the length of each list of rounds.
func roomyRounds(l ...api.Round) (out []api.Round) {
	for _, r := range l {
		out = append(out, roomy(r, badOp))
	}
	return roomy(out, api.Round{badOp})
}

// spoilNet writes over all lists of a net.
func spoilNet(n api.Net) {
	for _, t := range n.Tables {
		spoil(t, badRule)
	}
	spoil(n.Tables, api.Table{badRule})
	spoil(n.Topo.Links, badLink)
	spoil(n.Topo.Hosts, badHost)
}

// whole is a net with all that lies behind the length of its lists.
func whole(n api.Net) api.Net {
	n.Topo.Links = slices.Clone(n.Topo.Links[:cap(n.Topo.Links)])
	n.Topo.Hosts = slices.Clone(n.Topo.Hosts[:cap(n.Topo.Hosts)])
	var l []api.Table
	for _, t := range n.Tables[:cap(n.Tables)] {
		l = append(l, slices.Clone(t[:cap(t)]))
	}
	return with(n, l...)
}

func sameNet(a, b api.Net) bool {
	return a.Topo.Switches == b.Topo.Switches && slices.Equal(a.Topo.Links, b.Topo.Links) &&
		slices.Equal(a.Topo.Hosts, b.Topo.Hosts) && slices.EqualFunc(a.Tables, b.Tables, slices.Equal)
}

// goesThrough has all of a field happen, with the rounds noOps(2) and swap and packets in them.
func goesThrough(t *testing.T, f *Field) {
	t.Helper()
	does(t, f, send(0, 1), send(2, 2), move(0), deliver(0), deliver(0), deliver(0), work(2), deliver(0))
	does(t, f, move(0), move(0), move(0), move(0))
	underAre(t, f, toBoth(1)...)
	does(t, f, deliver(0), deliver(0), deliver(0), deliver(0), deliver(0), work(1), work(3), deliver(0), deliver(0))
	does(t, f, send(0, 3), move(0))
	stands(t, f, 0, 0, 2, true)
	netIs(t, f, swapped())
	endsAre(t, f, ended("ann", 1, "bob", hop(1, 4, 1), hop(2, 1, 1), hop(3, 1, 1)), ended("cid", 1, "bob", hop(2, 4, 2), hop(3, 1, 2)), ended("ann", 1, "ann", hop(1, 4, 3)))
}

// TestWhatIsHandedInIsNotKept: what becomes of it is not seen by the field, nor the other way round.
func TestWhatIsHandedInIsNotKept(t *testing.T) {
	n, l := roomyNet(line()), roomyRounds(noOps(2), swap())
	wasNet := whole(n)
	f := fresh(t, n, 3, l...)
	goesThrough(t, f)
	spoilNet(f.Net())
	if !sameNet(whole(n), wasNet) {
		t.Errorf("the net handed in is now %v, was %v", whole(n), wasNet)
	}
	for i, r := range rounds(noOps(2), swap()) {
		if got := l[i][:cap(l[i])]; !slices.Equal(got[:len(r)], r) || got[len(r)] != badOp || got[len(r)+1] != badOp {
			t.Errorf("the round %d handed in is now %v", i, got)
		}
	}
	f = fresh(t, n, 3, l...)
	spoilNet(n)
	for _, r := range l {
		spoil(r, badOp)
	}
	spoil(l, api.Round{badOp})
	goesThrough(t, f)
}

// TestWhatComesOutIsFresh: what is written over it is not seen by the field.
func TestWhatComesOutIsFresh(t *testing.T) {
	f := amid(t)
	for range 3 {
		spoilNet(f.Net())
		for _, x := range f.Fates() {
			spoil(x.Hops, hop(-9, -9, -9))
		}
		spoil(f.Fates(), api.Fate{How: -9})
		spoil(f.Froms(), "-")
		n := f.Net()
		for _, x := range n.Tables {
			_ = append(x, badRule)
		}
		_ = append(n.Tables, api.Table{badRule})
		_ = append(n.Topo.Hosts, badHost)
		_ = append(f.Fates(), api.Fate{How: -9})
		_ = append(f.Fates()[0].Hops, hop(-9, -9, -9))
		_ = append(f.Froms(), "-")
		amidStands(t, f)
	}
	goesOn(t, f)
}

// TestWhatCameOutStays: nothing that happens later on is seen in it.
func TestWhatCameOutStays(t *testing.T) {
	f := amid(t)
	n, fates, froms := f.Net(), f.Fates(), f.Froms()
	was := f.Net()
	goesOn(t, f)
	if !sameNet(n, was) || len(fates) != 2 || !slices.Equal(froms, []string{"bob", "ann"}) {
		t.Errorf("what came out is now %v, %v, %v", n, fates, froms)
	}
	if !slices.Equal(fates[1].Hops, []api.Hop{hop(1, 4, 1), hop(2, 1, 1), hop(3, 1, 1)}) {
		t.Errorf("a fate that came out is now %v", fates[1])
	}
}

// TestTwoAnswersShareNoMemory: not even those that come one right behind the other, nor two lists of one.
func TestTwoAnswersShareNoMemory(t *testing.T) {
	f := amid(t)
	one, other := f.Net(), f.Net()
	want := whole(other)
	spoilNet(one)
	if !sameNet(whole(other), want) {
		t.Errorf("writing over one net left %v of another one", other)
	}
	a, b := f.Fates(), f.Fates()
	spoil(a[0].Hops, hop(-9, -9, -9))
	if !slices.Equal(a[1].Hops, []api.Hop{hop(1, 4, 1), hop(2, 1, 1), hop(3, 1, 1)}) {
		t.Errorf("writing over the hops of one fate left %v of another one", a[1])
	}
	spoil(a[1].Hops, hop(-9, -9, -9))
	spoil(a, api.Fate{How: -9})
	if b[0].Hops[0] != hop(3, 4, 2) || len(b[1].Hops) != 3 || b[1].Hops[2] != hop(3, 1, 1) {
		t.Errorf("writing over one list of fates left %v of another one", b)
	}
	x, y := f.Froms(), f.Froms()
	spoil(x, "-")
	if !slices.Equal(y, []string{"bob", "ann"}) {
		t.Errorf("writing over one list left %v of another one", y)
	}
	goesOn(t, f)
}

// TestTablesOfANetShareNoMemory: each is a list of its own, also where they are alike.
func TestTablesOfANetShareNoMemory(t *testing.T) {
	l := api.Table{all(10, 1), all(20, 2)}
	n := fresh(t, with(line(), l, l, l), 1).Net()
	for i := range n.Tables {
		spoil(n.Tables[i], badRule)
		for _, x := range n.Tables[i+1:] {
			if !slices.Equal(x, l) {
				t.Errorf("writing over the table %d left %v of another one", i, x)
			}
		}
	}
}

// TestFieldsAreApart: what happens to one has not happened to another one, though they were made of the same.
func TestFieldsAreApart(t *testing.T) {
	n, l := line(), rounds(noOps(2), swap())
	one, other := fresh(t, n, 3, l...), fresh(t, n, 3, l...)
	goesThrough(t, one)
	stands(t, other, 3, 0, 1, false)
	netIs(t, other, line())
	endsAre(t, other)
	does(t, other, send(1, 1), tick(), tick())
	goesOn(t, amid(t))
	does(t, other, move(0), tick())
	stands(t, other, 6, 0, 1, false)
	netIs(t, one, swapped())
	stands(t, one, 0, 0, 2, true)
}

// TestAskingChangesNothing: however often what stands is asked.
func TestAskingChangesNothing(t *testing.T) {
	f := amid(t)
	for range 5 {
		amidStands(t, f)
	}
	goesOn(t, f)
}

// TestAnswersHangOnTheFieldAlone: what was asked of others before is not to be told from what is answered now.
func TestAnswersHangOnTheFieldAlone(t *testing.T) {
	for range 3 {
		TestAnswersComeBehindAll(t)
		TestEnds(t)
		TestSendFull(t)
		TestYoungPacketsHoldNothing(t)
		TestWorkThatIsNotReady(t)
	}
}
