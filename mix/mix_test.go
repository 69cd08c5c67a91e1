package mix

import (
	"math"
	"slices"
	"testing"

	"railpoint/api"
	"railpoint/net"
	"railpoint/plain"
	"railpoint/rule"
)

func spot(a, port int) api.Spot { return api.Spot{Switch: a, Port: port} }

func link(a, ap, b, bp int) api.Link { return api.Link{A: spot(a, ap), B: spot(b, bp)} }

func host(name string, a, port int) api.Host { return api.Host{Name: name, At: spot(a, port)} }

// parsed is the rule that is written out.
func parsed(s string) api.Rule {
	r, err := rule.Parse(s)
	if err != nil {
		panic(s)
	}
	return r
}

// tab is the table of rules that are written out.
func tab(texts ...string) api.Table {
	var t api.Table
	for _, s := range texts {
		t = append(t, parsed(s))
	}
	return t
}

func add(a int, s string) api.Op { return api.Op{Switch: a, Add: true, Rule: parsed(s)} }

func take(a int, s string) api.Op { return api.Op{Switch: a, Rule: parsed(s)} }

func ops(l ...api.Op) []api.Op { return l }

// swap takes a rule away, and adds another one.
func swap(a int, old, young string) []api.Op { return ops(take(a, old), add(a, young)) }

// ring is a net of three switches, each joined with both others at the ports 1 and 2, with nothing at port 3
// and a host at port 4.
func ring(tables ...api.Table) api.Net {
	return api.Net{
		Topo: api.Topo{
			Switches: 3,
			Links:    []api.Link{link(1, 1, 2, 1), link(2, 2, 3, 1), link(3, 2, 1, 2)},
			Hosts:    []api.Host{host("cy", 3, 4), host("ann", 1, 4), host("bob", 2, 4)},
		},
		Tables: tables,
	}
}

// even is a ring in which each switch has one rule, for all headers: what is written behind them.
func even(first, second, third string) api.Net {
	return ring(tab("10 **** "+first), tab("10 **** "+second), tab("10 **** "+third))
}

// turn lets a switch of such a ring do something else with all headers.
func turn(a int, old, young string) []api.Op { return swap(a, "10 **** "+old, "10 **** "+young) }

// single is a net of one switch that is joined with itself at the ports 1 and 2, and with the host a at 4.
func single(rules ...string) api.Net {
	return api.Net{
		Topo:   api.Topo{Switches: 1, Links: []api.Link{link(1, 1, 1, 2)}, Hosts: []api.Host{host("a", 1, 4)}},
		Tables: []api.Table{tab(rules...)},
	}
}

// hops has the hops of a packet: switch, port and header of each.
func hops(numbers ...int) []api.Hop {
	var l []api.Hop
	for h := range slices.Chunk(numbers, 3) {
		l = append(l, api.Hop{At: spot(h[0], h[1]), Header: h[2]})
	}
	return l
}

func arrived(name string, numbers ...int) api.Fate {
	return api.Fate{How: api.Arrived, Host: name, Hops: hops(numbers...)}
}

func dropped(numbers ...int) api.Fate { return api.Fate{How: api.Dropped, Hops: hops(numbers...)} }

func lost(numbers ...int) api.Fate { return api.Fate{How: api.Lost, Hops: hops(numbers...)} }

func looped(numbers ...int) api.Fate { return api.Fate{How: api.Looped, Hops: hops(numbers...)} }

func sameFate(a, b api.Fate) bool {
	return a.How == b.How && a.Host == b.Host && slices.Equal(a.Hops, b.Hops)
}

func sameFates(a, b []api.Fate) bool { return slices.EqualFunc(a, b, sameFate) }

// seenAre fails unless just these fates are seen, in that order.
func seenAre(t *testing.T, n api.Net, l []api.Op, name string, header int, want ...api.Fate) {
	t.Helper()
	if got, err := Seen(n, l, name, header); !sameFates(got, want) || err != nil {
		t.Errorf("Seen(%v, %v, %q, %d):\n%v, %v, want\n%v", n, l, name, header, got, err, want)
	}
}

// seenFails fails unless that is told, and nothing is seen.
func seenFails(t *testing.T, n api.Net, l []api.Op, name string, header int, fault api.Errno) {
	t.Helper()
	if got, err := Seen(n, l, name, header); len(got) != 0 || plain.Told(err) != fault {
		t.Errorf("Seen(%v, %v, %q, %d): %v, %v, want %v", n, l, name, header, got, err, fault)
	}
}

func touchedAre(t *testing.T, l []api.Op, want ...int) {
	t.Helper()
	if got := Touched(l); !slices.Equal(got, want) {
		t.Errorf("Touched(%v): %v, want %v", l, got, want)
	}
}

func TestTouched(t *testing.T) {
	touchedAre(t, nil)
	touchedAre(t, []api.Op{})
	for a := 1; a <= 6; a++ {
		touchedAre(t, ops(add(a, "10 **** out 1")), a)
		touchedAre(t, ops(take(a, "10 **** out 1")), a)
		touchedAre(t, swap(a, "10 **** out 1", "10 **** drop"), a)
	}
	touchedAre(t, ops(add(1, "10 **** out 1"), add(2, "10 **** out 1")), 1, 2)
	touchedAre(t, ops(add(2, "10 **** out 1"), take(1, "10 **** out 1")), 1, 2)
	touchedAre(t, ops(add(3, "1 **** drop"), add(1, "1 **** drop"), add(3, "2 **** drop"), add(2, "1 **** drop"),
		take(1, "1 **** drop"), take(3, "1 **** drop")), 1, 2, 3)
	touchedAre(t, ops(add(6, "1 **** drop"), add(5, "1 **** drop"), add(2, "1 **** drop"), add(6, "1 **** drop")), 2, 5, 6)
	// What is taken away again was touched as well.
	touchedAre(t, ops(add(4, "1 **** drop"), take(4, "1 **** drop")), 4)
}

// TestTouchedAsksNothing: Ops that no net could have, and more than may be done, are gone over as all others.
func TestTouchedAsksNothing(t *testing.T) {
	ill := api.Rule{Prio: -5, Cube: api.Cube{Mask: 99, Bits: -99}, Out: 77, Set: -1, Value: 16}
	touchedAre(t, ops(api.Op{Switch: math.MaxInt, Rule: ill}, api.Op{Switch: 7}, api.Op{Switch: -3, Rule: ill}, api.Op{},
		api.Op{Switch: math.MinInt, Add: true}, api.Op{Switch: 7, Add: true}), math.MinInt, -3, 0, 7, math.MaxInt)
	var many []api.Op
	var want []int
	for i := range 5000 {
		many = append(many, api.Op{Switch: i * 7 % 5000}, api.Op{Switch: i * 3 % 5000, Add: true})
		want = append(want, i)
	}
	touchedAre(t, many, want...)
}

// TestSeenWithoutOps: just what becomes of the packet in that net.
func TestSeenWithoutOps(t *testing.T) {
	x := even("out 1", "out 2", "out 4")
	seenAre(t, x, nil, "ann", 5, arrived("cy", 1, 4, 5, 2, 1, 5, 3, 1, 5))
	seenAre(t, even("out 1", "drop", "out 4"), nil, "ann", 5, dropped(1, 4, 5, 2, 1, 5))
	seenAre(t, even("out 1", "out 3", "out 4"), nil, "ann", 5, lost(1, 4, 5, 2, 1, 5))
	seenAre(t, even("out 1", "out 1", "out 4"), nil, "ann", 5, looped(1, 4, 5, 2, 1, 5, 1, 1, 5))
	for _, n := range []api.Net{x, even("out 1", "out 1", "drop"), ring(nil, nil, nil), single("10 ***0 out 1 set ***1", "5 **** out 3"),
		ring(tab("10 0*** out 1 set **1*", "20 *1** out 4"), tab("5 **** out 2", "7 **1* drop"), tab("9 1*** out 3", "8 **** out 2"))} {
		for _, h := range n.Topo.Hosts {
			for header := range 16 {
				want, err := net.Send(n, h.Name, header)
				if err != nil {
					t.Fatal(err)
				}
				seenAre(t, n, nil, h.Name, header, want)
				seenAre(t, n, []api.Op{}, h.Name, header, want)
			}
		}
	}
}

// TestSeenOneSwitch: the old table or the new one, for the headers that they tell apart.
func TestSeenOneSwitch(t *testing.T) {
	x := even("out 4", "out 4", "out 4")
	l := turn(1, "out 4", "out 1")
	for h := range 16 {
		seenAre(t, x, l, "ann", h, arrived("ann", 1, 4, h), arrived("bob", 1, 4, h, 2, 1, h))
		seenAre(t, x, l, "bob", h, arrived("bob", 2, 4, h))
		seenAre(t, x, l, "cy", h, arrived("cy", 3, 4, h))
		seenAre(t, x, ops(take(1, "10 **** out 4")), "ann", h, arrived("ann", 1, 4, h), dropped(1, 4, h))
		more := ops(add(1, "20 1**0 out 2 set *1**"))
		if h&9 == 8 {
			seenAre(t, x, more, "ann", h, arrived("ann", 1, 4, h), arrived("cy", 1, 4, h, 3, 2, h|4))
		} else {
			seenAre(t, x, more, "ann", h, arrived("ann", 1, 4, h))
		}
	}
	// Not at the first hop, but at a later one.
	y := even("out 1", "out 2", "out 4")
	seenAre(t, y, turn(3, "out 4", "out 3"), "ann", 7,
		arrived("cy", 1, 4, 7, 2, 1, 7, 3, 1, 7), lost(1, 4, 7, 2, 1, 7, 3, 1, 7))
	seenAre(t, y, turn(2, "out 2", "drop"), "ann", 7,
		arrived("cy", 1, 4, 7, 2, 1, 7, 3, 1, 7), dropped(1, 4, 7, 2, 1, 7))
}

// TestSeenSeveralSwitches: each has its old table or its new one, whatever the others have.
func TestSeenSeveralSwitches(t *testing.T) {
	x := even("out 1", "out 4", "out 4")
	l := slices.Concat(turn(2, "out 4", "out 2"), turn(1, "out 1", "out 2"))
	seenAre(t, x, l, "ann", 3,
		arrived("bob", 1, 4, 3, 2, 1, 3),
		arrived("cy", 1, 4, 3, 2, 1, 3, 3, 1, 3),
		arrived("cy", 1, 4, 3, 3, 2, 3))
	seenAre(t, x, l, "bob", 3, arrived("bob", 2, 4, 3), arrived("cy", 2, 4, 3, 3, 1, 3))
	seenAre(t, x, l, "cy", 3, arrived("cy", 3, 4, 3))
	l = slices.Concat(l, turn(3, "out 4", "drop"))
	seenAre(t, x, l, "ann", 3,
		arrived("bob", 1, 4, 3, 2, 1, 3),
		arrived("cy", 1, 4, 3, 2, 1, 3, 3, 1, 3),
		arrived("cy", 1, 4, 3, 3, 2, 3),
		dropped(1, 4, 3, 2, 1, 3, 3, 1, 3),
		dropped(1, 4, 3, 3, 2, 3))
	// In which order the Ops stand makes no odds, as far as they can be done so.
	slices.SortStableFunc(l, func(a, b api.Op) int { return a.Switch - b.Switch })
	seenAre(t, x, l, "bob", 3, arrived("bob", 2, 4, 3), arrived("cy", 2, 4, 3, 3, 1, 3), dropped(2, 4, 3, 3, 1, 3))
}

// TestSeenTwiceAtASwitch: with the new table met there, the old one is not met any more; with the old one either is.
func TestSeenTwiceAtASwitch(t *testing.T) {
	x := ring(tab("10 0*** out 1", "10 1*** out 3"), tab("10 **** out 1 set 1***"), tab("10 **** out 4"))
	l := slices.Concat(swap(1, "10 0*** out 1", "10 0*** out 1 set ***1"), swap(1, "10 1*** out 3", "10 1*** out 2"))
	seenAre(t, x, l, "ann", 0,
		arrived("cy", 1, 4, 0, 2, 1, 0, 1, 1, 8, 3, 2, 8),
		arrived("cy", 1, 4, 0, 2, 1, 1, 1, 1, 9, 3, 2, 9),
		lost(1, 4, 0, 2, 1, 0, 1, 1, 8))
	// A header for which both do the same at first does not tell which one was met.
	seenAre(t, x, l, "ann", 1,
		arrived("cy", 1, 4, 1, 2, 1, 1, 1, 1, 9, 3, 2, 9),
		lost(1, 4, 1, 2, 1, 1, 1, 1, 9))
	// What another switch has makes no odds to that.
	l = append(l, turn(2, "out 1 set 1***", "out 1 set 11**")...)
	seenAre(t, x, l, "ann", 0,
		arrived("cy", 1, 4, 0, 2, 1, 0, 1, 1, 8, 3, 2, 8),
		arrived("cy", 1, 4, 0, 2, 1, 0, 1, 1, 12, 3, 2, 12),
		arrived("cy", 1, 4, 0, 2, 1, 1, 1, 1, 9, 3, 2, 9),
		arrived("cy", 1, 4, 0, 2, 1, 1, 1, 1, 13, 3, 2, 13),
		lost(1, 4, 0, 2, 1, 0, 1, 1, 8),
		lost(1, 4, 0, 2, 1, 0, 1, 1, 12))
}

// TestSeenOften: a switch is met three times, and may have changed ahead of each of them.
func TestSeenOften(t *testing.T) {
	x := single("10 00** out 1 set 01**", "10 01** out 1 set 11**", "10 11** out 3")
	l := slices.Concat(
		swap(1, "10 00** out 1 set 01**", "10 00** out 1 set 01*1"),
		swap(1, "10 01** out 1 set 11**", "10 01** out 1 set 111*"),
		swap(1, "10 11** out 3", "10 11** out 4"))
	seenAre(t, x, l, "a", 0,
		arrived("a", 1, 4, 0, 1, 2, 4, 1, 2, 12),
		arrived("a", 1, 4, 0, 1, 2, 4, 1, 2, 14),
		arrived("a", 1, 4, 0, 1, 2, 5, 1, 2, 15),
		lost(1, 4, 0, 1, 2, 4, 1, 2, 12))
}

// TestSeenOfEachHow: in the order of How, a beginning ahead of what goes on from it.
func TestSeenOfEachHow(t *testing.T) {
	x := even("out 1", "out 3", "out 4")
	seenAre(t, x, slices.Concat(turn(1, "out 1", "drop"), turn(2, "out 3", "out 1")), "ann", 6,
		dropped(1, 4, 6),
		dropped(1, 4, 6, 2, 1, 6, 1, 1, 6),
		lost(1, 4, 6, 2, 1, 6),
		looped(1, 4, 6, 2, 1, 6, 1, 1, 6))
	seenAre(t, x, slices.Concat(turn(1, "out 1", "out 4"), turn(2, "out 3", "out 1")), "ann", 6,
		arrived("ann", 1, 4, 6),
		arrived("ann", 1, 4, 6, 2, 1, 6, 1, 1, 6),
		lost(1, 4, 6, 2, 1, 6),
		looped(1, 4, 6, 2, 1, 6, 1, 1, 6))
	seenAre(t, x, slices.Concat(turn(1, "out 1", "out 2"), turn(2, "out 3", "out 1"), turn(3, "out 4", "out 3")), "ann", 6,
		arrived("cy", 1, 4, 6, 2, 1, 6, 1, 1, 6, 3, 2, 6),
		arrived("cy", 1, 4, 6, 3, 2, 6),
		lost(1, 4, 6, 2, 1, 6),
		lost(1, 4, 6, 2, 1, 6, 1, 1, 6, 3, 2, 6),
		lost(1, 4, 6, 3, 2, 6),
		looped(1, 4, 6, 2, 1, 6, 1, 1, 6))
}

// TestSeenInOrder: How goes ahead of Host, that ahead of the Hops; of these Switch, Port, then Header, the first ones first.
func TestSeenInOrder(t *testing.T) {
	// The host of the greatest name is the nearest, and is so by fewer hops.
	x := even("out 1", "out 2", "out 4")
	x.Topo.Hosts = []api.Host{host("z", 1, 4), host("b", 3, 4), host("m", 2, 4), host("ab", 3, 3), host("a", 2, 3)}
	seenAre(t, x, slices.Concat(turn(1, "out 1", "out 4"), turn(2, "out 2", "out 4")), "z", 0,
		arrived("b", 1, 4, 0, 2, 1, 0, 3, 1, 0), arrived("m", 1, 4, 0, 2, 1, 0), arrived("z", 1, 4, 0))
	seenAre(t, x, slices.Concat(turn(3, "out 4", "out 3"), turn(2, "out 2", "out 3")), "z", 0,
		arrived("a", 1, 4, 0, 2, 1, 0), arrived("ab", 1, 4, 0, 2, 1, 0, 3, 1, 0), arrived("b", 1, 4, 0, 2, 1, 0, 3, 1, 0))
	// Two switches, all of whose ports are joined but one: the one at port 1 of the first has port 3 of the second.
	y := api.Net{
		Topo: api.Topo{Switches: 2, Links: []api.Link{link(1, 1, 2, 3), link(1, 2, 2, 2), link(1, 3, 2, 1)},
			Hosts: []api.Host{host("a", 1, 4)}},
		Tables: []api.Table{tab("10 **** out 1 set ***0"), tab("10 **** drop")},
	}
	seenAre(t, y, swap(1, "10 **** out 1 set ***0", "10 **** out 2 set ***0"), "a", 9,
		dropped(1, 4, 9, 2, 2, 8), dropped(1, 4, 9, 2, 3, 8))
	// The port counts more than the header.
	seenAre(t, y, swap(1, "10 **** out 1 set ***0", "10 **** out 3 set 1111"), "a", 9,
		dropped(1, 4, 9, 2, 1, 15), dropped(1, 4, 9, 2, 3, 8))
	seenAre(t, y, swap(1, "10 **** out 1 set ***0", "10 **** out 1 set 0***"), "a", 9,
		dropped(1, 4, 9, 2, 3, 1), dropped(1, 4, 9, 2, 3, 8))
	seenAre(t, y, swap(1, "10 **** out 1 set ***0", "10 **** out 1"), "a", 9,
		dropped(1, 4, 9, 2, 3, 8), dropped(1, 4, 9, 2, 3, 9))
	// The switch counts more than the port, and an earlier hop more than a later one, or than how many there are.
	z := even("out 2", "out 3", "out 1")
	seenAre(t, z, turn(1, "out 2", "out 1 set ***1"), "ann", 0, lost(1, 4, 0, 2, 1, 1), lost(1, 4, 0, 3, 2, 0, 2, 2, 0))
	seenAre(t, z, slices.Concat(turn(1, "out 2", "out 1 set ***1"), turn(3, "out 1", "out 3")), "ann", 0,
		lost(1, 4, 0, 2, 1, 1), lost(1, 4, 0, 3, 2, 0), lost(1, 4, 0, 3, 2, 0, 2, 2, 0))
	seenAre(t, even("out 1", "out 2", "out 3"), turn(1, "out 1", "out 2"), "ann", 0,
		lost(1, 4, 0, 2, 1, 0, 3, 1, 0), lost(1, 4, 0, 3, 2, 0))
}

// TestSeenEachOnce: what two tables do otherwise, but is told alike, is one fate.
func TestSeenEachOnce(t *testing.T) {
	// The header with which it arrives is not told.
	seenAre(t, even("out 4", "drop", "drop"), turn(1, "out 4", "out 4 set 1***"), "ann", 2, arrived("ann", 1, 4, 2))
	// Nor at which port it goes out, where it is lost.
	x := api.Net{Topo: api.Topo{Switches: 1, Hosts: []api.Host{host("a", 1, 4)}}, Tables: []api.Table{tab("10 **** out 1")}}
	seenAre(t, x, swap(1, "10 **** out 1", "10 **** out 3"), "a", 2, lost(1, 4, 2))
	// Nor why it is dropped.
	seenAre(t, even("drop", "drop", "drop"), ops(take(1, "10 **** drop")), "ann", 2, dropped(1, 4, 2))
	// Nor where it would have come in once more.
	y := single("10 00** out 1 set 01**", "10 01** out 1 set 11**", "10 11** out 1")
	seenAre(t, y, swap(1, "10 11** out 1", "10 11** out 1 set 01**"), "a", 0, looped(1, 4, 0, 1, 2, 4, 1, 2, 12))
	// A rule that stands elsewhere, or counts for no header, changes nothing.
	z := even("out 1", "out 2", "out 4")
	for _, l := range [][]api.Op{
		turn(1, "out 1", "out 1"), turn(3, "out 4", "out 4"), ops(add(2, "9 **** drop")), ops(add(2, "9 1*** out 1")),
		slices.Concat(turn(1, "out 1", "out 1"), turn(2, "out 2", "out 2"), turn(3, "out 4", "out 4")),
	} {
		seenAre(t, z, l, "ann", 9, arrived("cy", 1, 4, 9, 2, 1, 9, 3, 1, 9))
	}
}

// TestSeenFromAheadOfAllToBehindAll: what a switch has between two Ops is not seen.
func TestSeenFromAheadOfAllToBehindAll(t *testing.T) {
	x := even("out 4", "out 4", "out 4")
	seenAre(t, x, slices.Concat(turn(1, "out 4", "out 1"), turn(1, "out 1", "drop"), turn(1, "drop", "out 2")), "ann", 8,
		arrived("ann", 1, 4, 8), arrived("cy", 1, 4, 8, 3, 2, 8))
	// Nor is it where Ops of others stand between.
	seenAre(t, x, slices.Concat(turn(1, "out 4", "out 3"), turn(2, "out 4", "out 2"), turn(1, "out 3", "out 1"),
		turn(2, "out 2", "drop")), "ann", 8,
		arrived("ann", 1, 4, 8), arrived("bob", 1, 4, 8, 2, 1, 8), dropped(1, 4, 8, 2, 1, 8))
	// There and back: nothing is seen of it.
	seenAre(t, x, ops(add(1, "20 **** drop"), take(1, "20 **** drop")), "ann", 8, arrived("ann", 1, 4, 8))
	seenAre(t, x, slices.Concat(turn(1, "out 4", "drop"), turn(1, "drop", "out 4")), "ann", 8, arrived("ann", 1, 4, 8))
	many := slices.Repeat(ops(add(1, "20 **** drop"), take(1, "20 **** drop")), 100)
	seenAre(t, x, many, "ann", 8, arrived("ann", 1, 4, 8))
	seenAre(t, x, many[:199], "ann", 8, arrived("ann", 1, 4, 8), dropped(1, 4, 8))
}

// TestSeenLooped: where it comes in once more with that header it is looped, though the switch may have another table now.
func TestSeenLooped(t *testing.T) {
	x := even("out 1", "out 1", "out 4")
	seenAre(t, x, turn(2, "out 1", "out 4"), "ann", 1,
		arrived("bob", 1, 4, 1, 2, 1, 1), looped(1, 4, 1, 2, 1, 1, 1, 1, 1))
	seenAre(t, x, turn(1, "out 1", "out 2"), "ann", 1,
		arrived("cy", 1, 4, 1, 2, 1, 1, 1, 1, 1, 3, 2, 1), arrived("cy", 1, 4, 1, 3, 2, 1), looped(1, 4, 1, 2, 1, 1, 1, 1, 1))
	// It loops only while they change: neither all old nor all new tables let it.
	y := even("out 1", "out 2", "out 4")
	seenAre(t, y, slices.Concat(turn(1, "out 1", "out 2"), turn(2, "out 2", "out 1")), "ann", 1,
		arrived("cy", 1, 4, 1, 2, 1, 1, 1, 1, 1, 3, 2, 1),
		arrived("cy", 1, 4, 1, 2, 1, 1, 3, 1, 1),
		arrived("cy", 1, 4, 1, 3, 2, 1),
		looped(1, 4, 1, 2, 1, 1, 1, 1, 1))
}

// counter sends a packet to and fro between two switches, the first of which counts its header up, till it is 15.
func counter(last string) api.Net {
	return api.Net{
		Topo: api.Topo{Switches: 2, Links: []api.Link{link(1, 1, 2, 1)},
			Hosts: []api.Host{host("one", 1, 4), host("two", 2, 4)}},
		Tables: []api.Table{
			tab("1 ***0 out 1 set ***1", "1 **01 out 1 set **10", "1 *011 out 1 set *100", "1 0111 out 1 set 1000", last),
			tab("1 **** out 1"),
		},
	}
}

// counted has the first n hops of a packet that comes in at the second switch of the counter.
func counted(header, n int) []api.Hop {
	l := []api.Hop{{At: spot(2, 4), Header: header}}
	for len(l) < n {
		if l[len(l)-1].At.Switch == 2 {
			l = append(l, api.Hop{At: spot(1, 1), Header: header})
		} else {
			header++
			l = append(l, api.Hop{At: spot(2, 1), Header: header})
		}
	}
	return l
}

// TestSeenAtMostSoManyHops: it may change ahead of each hop, the 24th as well; who would come in once more is looped.
func TestSeenAtMostSoManyHops(t *testing.T) {
	l := swap(2, "1 **** out 1", "1 **** out 3")
	for header := range 16 {
		var want []api.Fate
		for n := 1; n <= min(23, 31-2*header); n += 2 {
			want = append(want, api.Fate{How: api.Lost, Hops: counted(header, n)})
		}
		if header < 4 {
			want = append(want, api.Fate{How: api.Looped, Hops: counted(header, 24)})
			seenAre(t, counter("1 1111 drop"), l, "two", header, want...)
			continue
		}
		end := api.Fate{How: api.Dropped, Hops: counted(header, 32-2*header)}
		seenAre(t, counter("1 1111 drop"), l, "two", header, slices.Insert(want, 0, end)...)
	}
	// At the 24th hop: the old table of the first switch would have it loop, the new one lets it end.
	seen, err := Seen(counter("1 1111 drop"), ops(add(1, "2 1110 drop")), "two", 3)
	if want := []api.Fate{{How: api.Dropped, Hops: counted(3, 24)}, {How: api.Looped, Hops: counted(3, 24)}}; !sameFates(seen, want) || err != nil {
		t.Errorf("at the 24th hop %v, %v may be seen, want %v", seen, err, want)
	}
}
