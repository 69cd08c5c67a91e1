package wish

import (
	"math"
	"slices"
	"testing"

	"railpoint/api"
	"railpoint/plain"
	"railpoint/rule"
)

// tab is the table of rules that are written out.
func tab(texts ...string) api.Table {
	var t api.Table
	for _, s := range texts {
		r, err := rule.Parse(s)
		if err != nil {
			panic(s)
		}
		t = append(t, r)
	}
	return t
}

// world is the ring with tables by which packets arrive, here and there, and loop between 2 and 3.
//
//	ann: 0 to 3 over 1, 2, 3 to cy; 4 to 7 over 1, 2 to bob; 8, 10 over 1, 3 to cy; 9, 11 loop; 12 to 15 over 1 to ann
//	bob: 0 to 3, 8, 10 over 2, 3 to cy; 4 to 7, 12 to 15 over 2 to bob; 9, 11 loop
//	cy: 9, 11 loop; 13, 15 over 3, 2 to bob; the others over 3 to cy
func world() api.Net {
	return api.Net{
		Topo: ring(),
		Tables: []api.Table{
			tab("10 **** out 4", "20 0*** out 1", "20 10** out 2"),
			tab("10 **** out 2", "20 *1** out 4"),
			tab("10 **** out 4", "20 1**1 out 1"),
		},
	}
}

// one is a net of one switch with the hosts a, b and c at the ports 3, 4 and 2, and nothing at port 1.
func one(rules ...string) api.Net {
	return api.Net{
		Topo:   api.Topo{Switches: 1, Hosts: []api.Host{host("a", 1, 3), host("b", 1, 4), host("c", 1, 2)}},
		Tables: []api.Table{tab(rules...)},
	}
}

func holdsIs(t *testing.T, n api.Net, l []api.Wish, want api.Proof, fault api.Errno) {
	t.Helper()
	got, err := Holds(n, l)
	if got != want || plain.Told(err) != fault {
		t.Errorf("Holds(%v, %v): %v, %v, want %v, %v", n, l, got, err, want, fault)
	}
}

// allHold fails unless they do, together and each alone.
func allHold(t *testing.T, n api.Net, l ...api.Wish) {
	t.Helper()
	holdsIs(t, n, l, api.Proof{}, api.OK)
	for _, w := range l {
		holdsIs(t, n, wishes(w), api.Proof{}, api.OK)
	}
}

// breaks fails unless the wish does not hold, which who and header show, also where it is wished once more.
func breaks(t *testing.T, n api.Net, w api.Wish, who string, header int) {
	t.Helper()
	holdsIs(t, n, wishes(w), api.Proof{Wish: 0, From: who, Header: header}, api.ErrBroken)
	holdsIs(t, n, wishes(w, w), api.Proof{Wish: 0, From: who, Header: header}, api.ErrBroken)
}

func TestHoldsReach(t *testing.T) {
	x := world()
	breaks(t, x, reach("ann", "ann"), "ann", 0)
	breaks(t, x, reach("ann", "bob"), "ann", 0)
	breaks(t, x, reach("ann", "cy"), "ann", 4)
	breaks(t, x, reach("bob", "bob"), "bob", 0)
	breaks(t, x, reach("bob", "cy"), "bob", 4)
	breaks(t, x, reach("bob", "ann"), "bob", 0)
	breaks(t, x, reach("cy", "cy"), "cy", 9)
	breaks(t, x, reach("cy", "bob"), "cy", 0)
	x.Tables[2] = tab("10 **** out 4")
	allHold(t, x, reach("cy", "cy"))
	x.Tables[1] = tab("10 **** out 2")
	allHold(t, x, reach("cy", "cy"), reach("bob", "cy"))
	breaks(t, x, reach("ann", "cy"), "ann", 12)
	x.Tables[0] = tab("10 **** out 1 set *0**", "11 0*** out 2")
	allHold(t, x, reach("cy", "cy"), reach("bob", "cy"), reach("ann", "cy"))
	// Whether it is dropped or lost, it does not arrive.
	for h := range 16 {
		text, _ := rule.Print(api.Rule{Prio: 20, Cube: api.Cube{Mask: 15, Bits: h}})
		breaks(t, one("10 **** out 4", text), reach("a", "b"), "a", h)
		text, _ = rule.Print(api.Rule{Prio: 20, Cube: api.Cube{Mask: 15, Bits: h}, Out: 1})
		breaks(t, one("10 **** out 4", text), reach("a", "b"), "a", h)
	}
	breaks(t, one(), reach("a", "b"), "a", 0)
	breaks(t, one("10 0*** out 4"), reach("a", "b"), "a", 8)
}

func TestHoldsApart(t *testing.T) {
	x := world()
	breaks(t, x, apart("ann", "cy"), "ann", 0)
	breaks(t, x, apart("ann", "bob"), "ann", 4)
	breaks(t, x, apart("ann", "ann"), "ann", 12)
	breaks(t, x, apart("bob", "bob"), "bob", 4)
	breaks(t, x, apart("cy", "cy"), "cy", 0)
	breaks(t, x, apart("cy", "bob"), "cy", 13)
	allHold(t, x, apart("bob", "ann"), apart("cy", "ann"))
	for h := range 16 {
		text, _ := rule.Print(api.Rule{Prio: 20, Cube: api.Cube{Mask: 15, Bits: h}, Out: 2})
		n := one("10 **** out 4", text)
		for _, from := range []string{"a", "b", "c"} {
			breaks(t, n, apart(from, "c"), from, h)
			allHold(t, n, apart(from, "a"))
		}
	}
	allHold(t, one(), apart("a", "b"), apart("b", "a"), apart("a", "a"))
	allHold(t, one("10 **** out 1"), apart("a", "b"), apart("c", "c"))
}

func TestHoldsWay(t *testing.T) {
	x := world()
	allHold(t, x, way("ann", "cy", 1), way("ann", "cy", 3), way("ann", "bob", 1), way("ann", "bob", 2), way("ann", "ann", 1), way("cy", "bob", 2), way("cy", "bob", 3))
	breaks(t, x, way("ann", "cy", 2), "ann", 8)
	breaks(t, x, way("ann", "bob", 3), "ann", 4)
	breaks(t, x, way("ann", "ann", 2), "ann", 12)
	breaks(t, x, way("bob", "bob", 3), "bob", 4)
	breaks(t, x, way("bob", "cy", 1), "bob", 0)
	breaks(t, x, way("cy", "bob", 1), "cy", 13)
	// Where none arrives it holds whatever the switch is.
	allHold(t, x, way("cy", "ann", 1), way("cy", "ann", 2), way("bob", "ann", 3))
	allHold(t, one(), way("a", "b", 1), way("b", "b", 1))
	allHold(t, one("10 **** out 4"), way("a", "b", 1), way("b", "b", 1))
}

func TestHoldsLoops(t *testing.T) {
	breaks(t, world(), loops(), "cy", 9)
	allHold(t, one(), loops())
	allHold(t, one("10 **** out 1"), loops())
	allHold(t, one("10 **** out 4"), loops())
	x := world()
	// Now just what 1 hears at port 4 loops, and that but with a header above those with which all would.
	x.Tables[0] = tab("10 **** out 4", "20 1**0 out 1 set **11", "20 0110 out 1 set 10*1")
	x.Tables[2] = tab("10 **** out 4", "20 1011 out 1")
	breaks(t, x, loops(), "cy", 11)
	x.Topo.Hosts = []api.Host{host("ann", 1, 4), host("bob", 2, 4), host("cy", 3, 4)}
	breaks(t, x, loops(), "ann", 6)
	x.Topo.Hosts = []api.Host{host("zed", 1, 3), host("bob", 2, 4), host("ann", 3, 4)}
	breaks(t, x, loops(), "zed", 6)
	// Without a host that sends it, nothing loops.
	x.Topo.Hosts = nil
	allHold(t, x, loops())
}

// TestHoldsFirstHostAheadOfLeastHeader: of loops the first host is told, though a later one has a lesser header.
func TestHoldsFirstHostAheadOfLeastHeader(t *testing.T) {
	x := api.Net{
		Topo: api.Topo{Switches: 3, Links: []api.Link{link(1, 1, 1, 2), link(2, 1, 2, 2), link(3, 1, 3, 2)},
			Hosts: []api.Host{host("b", 1, 4), host("c", 2, 4), host("a", 3, 4)}},
		Tables: []api.Table{tab("10 **** out 4", "20 111* out 1"), tab("10 **** out 4", "20 0**1 out 1"), tab("10 **** out 1")},
	}
	breaks(t, x, loops(), "b", 14)
	x.Topo.Hosts = []api.Host{x.Topo.Hosts[1], x.Topo.Hosts[0], x.Topo.Hosts[2]}
	breaks(t, x, loops(), "c", 1)
	x.Topo.Hosts = []api.Host{x.Topo.Hosts[2], x.Topo.Hosts[0], x.Topo.Hosts[1]}
	breaks(t, x, loops(), "a", 0)
}

// TestHoldsFirstWish: the first one that does not hold is told, whichever do ahead of it or do not behind it.
func TestHoldsFirstWish(t *testing.T) {
	x := world()
	good := wishes(apart("cy", "ann"), way("ann", "cy", 1), way("cy", "ann", 2), apart("bob", "ann"))
	bad := wishes(reach("ann", "cy"), apart("cy", "bob"), way("ann", "cy", 2), loops())
	proofs := []api.Proof{{From: "ann", Header: 4}, {From: "cy", Header: 13}, {From: "ann", Header: 8}, {From: "cy", Header: 9}}
	for n := range 8 {
		ahead := slices.Repeat(good, 2)[:n]
		for i, w := range bad {
			for _, behind := range append(slices.Clone(bad), good...) {
				want := proofs[i]
				want.Wish = n
				holdsIs(t, x, append(slices.Clone(ahead), w), want, api.ErrBroken)
				if n < 7 {
					holdsIs(t, x, append(slices.Clone(ahead), w, behind), want, api.ErrBroken)
				}
			}
		}
		allHold(t, x, ahead...)
	}
}

func TestHoldsNoWishes(t *testing.T) {
	for _, l := range [][]api.Wish{nil, {}} {
		for _, n := range []api.Net{world(), one(), one("10 **** out 1")} {
			holdsIs(t, n, l, api.Proof{}, api.OK)
		}
		for n := 1; n <= 6; n++ {
			holdsIs(t, api.Net{Topo: api.Topo{Switches: n}, Tables: make([]api.Table, n)}, l, api.Proof{}, api.OK)
		}
	}
}

// TestHoldsEightWishes: of eight hosts, at most.
func TestHoldsEightWishes(t *testing.T) {
	x := api.Net{Topo: api.Topo{Switches: 2}, Tables: []api.Table{tab("10 **** out 4"), tab("10 **** out 1", "20 1111 out 2")}}
	var l []api.Wish
	for i := range 8 {
		name := string(rune('h' - i))
		x.Topo.Hosts = append(x.Topo.Hosts, host(name, i/4+1, i%4+1))
		l = append(l, reach(name, "e"))
	}
	holdsIs(t, x, l[:4], api.Proof{}, api.OK)
	holdsIs(t, x, l, api.Proof{Wish: 4, From: "d", Header: 0}, api.ErrBroken)
	for i := 4; i < 8; i++ {
		l[i].To = "d"
	}
	holdsIs(t, x, l, api.Proof{Wish: 4, From: "d", Header: 15}, api.ErrBroken)
	x.Tables[1] = x.Tables[1][:1]
	holdsIs(t, x, l, api.Proof{}, api.OK)
	holdsIs(t, x, append(l, loops()), api.Proof{}, api.ErrFull)
}

// wrongTables has each fault that chapter 3 names of a table.
func wrongTables() map[api.Errno]api.Table {
	return map[api.Errno]api.Table{
		api.ErrFull:  make(api.Table, 13),
		api.ErrRange: {{Prio: 98, Out: 1}, {Out: 5}},
		api.ErrShape: {{Prio: 98, Out: 1}, {Set: 1}},
		api.ErrClash: {{Prio: 98, Out: 1}, {Prio: 98, Out: 2}},
	}
}

// TestHoldsOfWrongNets: they are told ahead of whatever is wrong with the wishes, or does not hold.
func TestHoldsOfWrongNets(t *testing.T) {
	lists := [][]api.Wish{nil, {loops()}, {reach("ann", "bob")}, {reach("ann", "dan")}, {{}}, {{What: 4, From: "ann"}}, slices.Repeat(wishes(loops()), 9)}
	for _, l := range lists {
		for fault, bad := range wrongTables() {
			for i := range 3 {
				n := world()
				n.Tables[i] = bad
				holdsIs(t, n, l, api.Proof{}, fault)
			}
		}
		for _, tables := range [][]api.Table{nil, world().Tables[:2], make([]api.Table, 4), make([]api.Table, 5000), {{{Prio: -1}}}} {
			holdsIs(t, api.Net{Topo: ring(), Tables: tables}, l, api.Proof{}, api.ErrShape)
		}
		for fault, all := range wrongTopos() {
			for _, x := range all {
				holdsIs(t, api.Net{Topo: x, Tables: []api.Table{{{Prio: -1}}}}, l, api.Proof{}, fault)
			}
		}
	}
}

// TestHoldsOfWrongWishes: they are told ahead of what does not hold, also where that is a wish ahead of them.
func TestHoldsOfWrongWishes(t *testing.T) {
	for fault, all := range map[api.Errno][]api.Wish{
		api.ErrRange: {{}, {What: 5}, way("ann", "cy", 0), way("ann", "cy", 4), {What: 4, Via: 1}, {What: 1, From: "ann", To: "cy", Via: math.MaxInt}},
		api.ErrShape: {{What: 4, From: "ann"}, {What: 4, To: "x"}},
		api.ErrNone:  {reach("dan", "ann"), apart("ann", ""), way("Ann", "ann", 1)},
	} {
		for _, w := range all {
			holdsIs(t, world(), wishes(w), api.Proof{}, fault)
			holdsIs(t, world(), wishes(loops(), w), api.Proof{}, fault)
			holdsIs(t, world(), wishes(reach("ann", "cy"), apart("ann", "cy"), w), api.Proof{}, fault)
		}
	}
	holdsIs(t, world(), slices.Repeat(wishes(loops()), 9), api.Proof{}, api.ErrFull)
}
