package mix

import (
	"slices"
	"testing"

	"railpoint/api"
	"railpoint/change"
	"railpoint/plain"
	"railpoint/wish"
)

func reach(from, to string) api.Wish { return api.Wish{What: 1, From: from, To: to} }

func apart(from, to string) api.Wish { return api.Wish{What: 2, From: from, To: to} }

func way(from, to string, via int) api.Wish { return api.Wish{What: 3, From: from, To: to, Via: via} }

func loops() api.Wish { return api.Wish{What: 4} }

// wishes is just the list of them.
func wishes(l ...api.Wish) []api.Wish { return l }

func safeIs(t *testing.T, n api.Net, l []api.Op, w []api.Wish, want api.Proof, fault api.Errno) {
	t.Helper()
	if got, err := Safe(n, l, w); got != want || plain.Told(err) != fault {
		t.Errorf("Safe(%v, %v, %v): %v, %v, want %v, %v", n, l, w, got, err, want, fault)
	}
}

// allSafe fails unless they are, together and each alone.
func allSafe(t *testing.T, n api.Net, l []api.Op, all ...api.Wish) {
	t.Helper()
	safeIs(t, n, l, all, api.Proof{}, api.OK)
	for _, w := range all {
		safeIs(t, n, l, wishes(w), api.Proof{}, api.OK)
	}
}

// breaks fails unless that wish is broken, and just that shows it.
func breaks(t *testing.T, n api.Net, l []api.Op, w api.Wish, from string, header int) {
	t.Helper()
	safeIs(t, n, l, wishes(w), api.Proof{From: from, Header: header}, api.ErrBroken)
}

// holdIs fails unless the wish holds, or does not, ahead of the Ops and behind them.
func holdIs(t *testing.T, n api.Net, l []api.Op, w api.Wish, ahead, behind bool) {
	t.Helper()
	m, err := change.Apply(n, l)
	if err != nil {
		t.Fatalf("Apply(%v, %v): %v", n, l, err)
	}
	_, first := wish.Holds(n, wishes(w))
	_, last := wish.Holds(m, wishes(w))
	if (first == nil) != ahead || (last == nil) != behind {
		t.Errorf("%v: ahead of %v %v, behind them %v", w, l, first, last)
	}
}

// detour has ann's packets go to cy over 2, and then at once, while 2 does what is told with them then.
func detour(young string) (api.Net, []api.Op) {
	return even("out 1", "out 2", "out 4"), slices.Concat(turn(1, "out 1", "out 2"), turn(2, "out 2", young))
}

func TestSafe(t *testing.T) {
	x, l := detour("out 4")
	allSafe(t, x, l, apart("ann", "ann"), apart("bob", "ann"), apart("cy", "ann"), apart("cy", "bob"), reach("cy", "cy"),
		way("ann", "cy", 1), way("ann", "cy", 3), loops())
	allSafe(t, x, l[:2], reach("ann", "cy"), reach("bob", "cy"), reach("cy", "cy"), apart("ann", "bob"), loops())
	allSafe(t, x, nil, reach("ann", "cy"), way("ann", "cy", 2), way("bob", "cy", 2), apart("ann", "bob"), loops())
	// A way that none takes to its end holds whatever the switch is.
	allSafe(t, x, l, way("cy", "ann", 2), way("bob", "ann", 1), way("ann", "bob", 2))
}

func TestSafeBrokenAheadOfTheOps(t *testing.T) {
	for _, c := range []struct {
		net  api.Net
		l    []api.Op
		w    api.Wish
		from string
	}{
		{even("drop", "out 4", "out 4"), turn(1, "drop", "out 1"), reach("ann", "bob"), "ann"},
		{even("out 1", "out 4", "out 4"), turn(1, "out 1", "drop"), apart("ann", "bob"), "ann"},
		{even("out 2", "out 2", "out 4"), turn(1, "out 2", "out 1"), way("ann", "cy", 2), "ann"},
		{even("out 1", "out 1", "out 4"), turn(2, "out 1", "out 4"), loops(), "ann"},
	} {
		holdIs(t, c.net, c.l, c.w, false, true)
		breaks(t, c.net, c.l, c.w, c.from, 0)
		// The same Ops taken back, from behind them: then it is broken behind.
		behind, err := change.Apply(c.net, c.l)
		if err != nil {
			t.Fatal(err)
		}
		holdIs(t, behind, change.Turn(c.l), c.w, true, false)
		breaks(t, behind, change.Turn(c.l), c.w, c.from, 0)
	}
}

// TestSafeBrokenOnlyMeanwhile: ahead of the Ops and behind them each wish holds.
func TestSafeBrokenOnlyMeanwhile(t *testing.T) {
	for _, c := range []struct {
		young string
		w     api.Wish
	}{
		{"drop", reach("ann", "cy")}, {"out 3", reach("ann", "cy")}, {"out 4", reach("ann", "cy")}, {"out 4", apart("ann", "bob")},
		{"out 1", loops()}, {"out 1", reach("ann", "cy")},
	} {
		x, l := detour(c.young)
		holdIs(t, x, l, c.w, true, true)
		breaks(t, x, l, c.w, "ann", 0)
		// One switch after the other it would be so, or would not be, by which is first.
		safeIs(t, x, l[:2], wishes(c.w), api.Proof{}, api.OK)
		breaks(t, x, l[2:], c.w, "ann", 0)
	}
	// Over 2 at first, then to bob, but between over 3 to cy.
	x := even("out 1", "out 2", "out 4")
	l := slices.Concat(turn(1, "out 1", "out 2"), turn(3, "out 4", "out 1 set 1***"),
		swap(2, "10 **** out 2", "10 **** out 4"))
	holdIs(t, x, l, way("ann", "cy", 2), true, true)
	breaks(t, x, l, way("ann", "cy", 2), "ann", 0)
	allSafe(t, x, l, way("ann", "cy", 1), way("ann", "cy", 3), way("ann", "bob", 2), apart("ann", "ann"))
}

// odd lets switch 1 send a header, and 15, out at a port, and all others as it did.
func odd(header, out int) []api.Op {
	var l []api.Op
	for _, h := range slices.Compact([]int{header, 15}) {
		l = append(l, api.Op{Switch: 1, Add: true, Rule: api.Rule{Prio: 20, Cube: api.Cube{Mask: 15, Bits: h}, Out: out}})
	}
	slices.Reverse(l)
	return l
}

// TestSafeLeastHeader: that shows it, of each kind of wish.
func TestSafeLeastHeader(t *testing.T) {
	for h := range 16 {
		breaks(t, even("out 4", "out 4", "out 4"), odd(h, 1), reach("ann", "ann"), "ann", h)
		breaks(t, even("out 4", "out 4", "out 4"), odd(h, 1), apart("ann", "bob"), "ann", h)
		breaks(t, even("out 4", "out 4", "out 4"), odd(h, 2), way("ann", "cy", 2), "ann", h)
		breaks(t, even("out 4", "out 1", "out 4"), odd(h, 1), loops(), "ann", h)
	}
}

// TestSafeFirstHost: of loops the first host is told, though a later one has a lesser header; of others From.
func TestSafeFirstHost(t *testing.T) {
	x := api.Net{
		Topo: api.Topo{Switches: 3, Links: []api.Link{link(1, 1, 1, 2), link(2, 1, 2, 2), link(3, 1, 3, 2)},
			Hosts: []api.Host{host("b", 1, 4), host("c", 2, 4), host("a", 3, 4)}},
		Tables: []api.Table{tab("10 **** out 4"), tab("10 **** out 4"), tab("10 **** out 4")},
	}
	l := ops(add(1, "20 111* out 1"), add(2, "20 0**1 out 1"), add(3, "20 **** out 1"))
	for _, c := range []struct {
		places []int
		from   string
		header int
	}{{[]int{0, 1, 2}, "b", 14}, {[]int{1, 0, 2}, "c", 1}, {[]int{2, 0, 1}, "a", 0}, {[]int{1, 2, 0}, "c", 1}} {
		y := x
		y.Topo.Hosts = nil
		for _, i := range c.places {
			y.Topo.Hosts = append(y.Topo.Hosts, x.Topo.Hosts[i])
		}
		breaks(t, y, l, loops(), c.from, c.header)
		breaks(t, y, l, reach("a", "a"), "a", 0)
		breaks(t, y, l, reach("b", "b"), "b", 14)
		breaks(t, y, l, reach("c", "c"), "c", 1)
		allSafe(t, y, l, apart("a", "b"), apart("b", "c"), way("c", "c", 2))
	}
	x.Topo.Hosts = nil
	allSafe(t, x, l, loops())
}

// TestSafeFirstWish: the first one that is broken is told, whichever are not ahead of it or are behind it.
func TestSafeFirstWish(t *testing.T) {
	x, l := detour("out 1 set ***1")
	// What 2 sends back once it has changed is odd, and may loop with the old table of 1.
	x.Tables[0] = append(x.Tables[0], parsed("20 ***1 out 1"))
	good := wishes(apart("ann", "bob"), reach("cy", "cy"), way("ann", "cy", 1), apart("cy", "ann"))
	bad := wishes(way("ann", "cy", 2), reach("bob", "cy"), loops(), reach("ann", "cy"))
	proofs := []api.Proof{{From: "ann"}, {From: "bob"}, {From: "ann"}, {From: "ann"}}
	for n := range 8 {
		ahead := slices.Repeat(good, 2)[:n]
		allSafe(t, x, l, ahead...)
		for i, w := range bad {
			want := proofs[i]
			want.Wish = n
			safeIs(t, x, l, append(slices.Clone(ahead), w), want, api.ErrBroken)
			if n == 7 {
				continue
			}
			for _, behind := range slices.Concat(bad, good) {
				safeIs(t, x, l, append(slices.Clone(ahead), w, behind), want, api.ErrBroken)
			}
		}
	}
}

// TestSafeFirstWishOfALaterHost: it is told, though what an earlier host sends breaks one behind it.
func TestSafeFirstWishOfALaterHost(t *testing.T) {
	x := even("out 4", "out 4", "out 4")
	l := ops(add(1, "20 1**1 drop"), add(2, "20 ***1 drop"), add(3, "20 *1** drop"))
	all := wishes(reach("bob", "bob"), reach("ann", "ann"), reach("cy", "cy"))
	safeIs(t, x, l, all, api.Proof{From: "bob", Header: 1}, api.ErrBroken)
	safeIs(t, x, l, all[1:], api.Proof{From: "ann", Header: 9}, api.ErrBroken)
	safeIs(t, x, l, all[2:], api.Proof{From: "cy", Header: 4}, api.ErrBroken)
	safeIs(t, x, l[1:], all[1:], api.Proof{Wish: 1, From: "cy", Header: 4}, api.ErrBroken)
	safeIs(t, x, l[1:], append(wishes(loops()), all...), api.Proof{Wish: 1, From: "bob", Header: 1}, api.ErrBroken)
	safeIs(t, x, l[2:], append(wishes(loops()), all...), api.Proof{Wish: 3, From: "cy", Header: 4}, api.ErrBroken)
	safeIs(t, x, nil, append(wishes(loops()), all...), api.Proof{}, api.OK)
}

// TestSafeOneFateOfMany: that breaks a wish, the first, the last or one between.
func TestSafeOneFateOfMany(t *testing.T) {
	l := swap(2, "1 **** out 1", "1 **** out 3")
	// It is lost at each hop, and looped at the last one alone.
	breaks(t, counter("1 1111 drop"), l, loops(), "one", 0)
	x := counter("1 1111 drop")
	x.Topo.Hosts = x.Topo.Hosts[1:]
	breaks(t, x, l, loops(), "two", 0)
	// What is so for one header on the way is seen of all that come to it by the 24th hop.
	y := counter("1 1111 out 4")
	y.Topo.Hosts = []api.Host{host("one", 1, 4), host("two", 2, 4), host("far", 2, 2)}
	breaks(t, y, ops(add(2, "2 1110 out 2")), apart("two", "far"), "two", 3)
	breaks(t, y, ops(add(2, "2 1110 out 2")), apart("one", "far"), "one", 2)
	breaks(t, y, ops(add(2, "2 0000 out 2")), apart("two", "far"), "two", 0)
	allSafe(t, y, ops(add(2, "2 0000 out 2")), apart("one", "far"))
}

// TestSafeWithoutWishes: whatever may be seen.
func TestSafeWithoutWishes(t *testing.T) {
	x, l := detour("out 1")
	for _, w := range [][]api.Wish{nil, {}} {
		safeIs(t, x, l, w, api.Proof{}, api.OK)
		safeIs(t, x, nil, w, api.Proof{}, api.OK)
		safeIs(t, ring(nil, nil, nil), nil, w, api.Proof{}, api.OK)
		for n := 1; n <= 6; n++ {
			bare := api.Net{Topo: api.Topo{Switches: n}, Tables: make([]api.Table, n)}
			safeIs(t, bare, ops(add(n, "10 **** out 1")), w, api.Proof{}, api.OK)
		}
	}
}

// TestSafeWithoutOps: it tells what Holds tells of the net.
func TestSafeWithoutOps(t *testing.T) {
	all := wishes(loops(), reach("ann", "cy"), apart("ann", "cy"), way("ann", "cy", 2), reach("cy", "cy"), apart("bob", "ann"))
	for _, x := range []api.Net{even("out 1", "out 2", "out 4"), even("out 2", "out 1", "out 4"), even("out 1", "out 1", "drop"), ring(nil, nil, nil)} {
		for i := range all {
			for j := i; j <= len(all); j++ {
				want, err := wish.Holds(x, all[i:j])
				safeIs(t, x, nil, all[i:j], want, plain.Told(err))
			}
		}
	}
}
