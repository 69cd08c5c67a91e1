package change

import (
	"math"
	"slices"
	"testing"

	"railpoint/api"
)

// flawed is a net that is not right, with the fault.
type flawed struct {
	net   api.Net
	fault api.Errno
}

// wrongTopos has each fault of chapter 5's Check.
func wrongTopos() []flawed {
	var out []flawed
	lay := func(fault api.Errno, x api.Topo) {
		out = append(out, flawed{api.Net{Topo: x, Tables: make([]api.Table, min(max(x.Switches, 0), 8))}, fault})
	}
	for _, n := range []int{0, -1, 7, math.MinInt, math.MaxInt} {
		lay(api.ErrRange, api.Topo{Switches: n})
	}
	lay(api.ErrFull, api.Topo{Switches: 2, Links: slices.Repeat([]api.Link{link(1, 1, 2, 1)}, 201)})
	lay(api.ErrFull, api.Topo{Switches: 2, Hosts: slices.Repeat([]api.Host{host("a", 1, 1)}, 9)})
	lay(api.ErrRange, api.Topo{Switches: 2, Links: []api.Link{link(3, 1, 1, 1)}})
	lay(api.ErrRange, api.Topo{Switches: 2, Links: []api.Link{link(1, 1, 2, 5)}})
	lay(api.ErrClash, api.Topo{Switches: 2, Links: []api.Link{link(1, 1, 1, 1)}})
	lay(api.ErrClash, api.Topo{Switches: 2, Links: []api.Link{link(1, 1, 2, 1), link(2, 1, 1, 2)}})
	lay(api.ErrSyntax, api.Topo{Switches: 2, Hosts: []api.Host{host("", 1, 1)}})
	lay(api.ErrSyntax, api.Topo{Switches: 2, Hosts: []api.Host{host("wrongly", 1, 1)}})
	lay(api.ErrRange, api.Topo{Switches: 2, Hosts: []api.Host{host("a", 2, 0)}})
	lay(api.ErrClash, api.Topo{Switches: 2, Links: []api.Link{link(1, 1, 2, 1)}, Hosts: []api.Host{host("a", 2, 1)}})
	lay(api.ErrClash, api.Topo{Switches: 2, Hosts: []api.Host{host("a", 2, 1), host("a", 1, 1)}})
	return out
}

// wrongRules has each fault of chapter 3's Check.
func wrongRules() map[api.Rule]api.Errno {
	return map[api.Rule]api.Errno{
		{Prio: -1}:                                  api.ErrRange,
		{Prio: 100}:                                 api.ErrRange,
		{Prio: 40, Out: -1}:                         api.ErrRange,
		{Prio: 40, Out: 5}:                          api.ErrRange,
		{Prio: 40, Out: 1, Set: 16}:                 api.ErrRange,
		{Prio: 40, Out: 1, Set: 15, Value: -1}:      api.ErrRange,
		{Prio: 40, Cube: api.Cube{Mask: 16}}:        api.ErrRange,
		{Prio: 40, Cube: api.Cube{Bits: -1}}:        api.ErrRange,
		{Prio: 40, Cube: api.Cube{Bits: 1}}:         api.ErrShape,
		{Prio: 40, Out: 1, Set: 2, Value: 1}:        api.ErrShape,
		{Prio: 40, Set: 1}:                          api.ErrShape,
		{Prio: 40, Cube: api.Cube{Bits: 1}, Set: 1}: api.ErrShape,
	}
}

// wrongNets has each fault of chapter 6's Check, of tables at each switch.
func wrongNets() []flawed {
	out := wrongTopos()
	for _, m := range []int{0, 1, 2, 4, 7} {
		n := world()
		n.Tables = make([]api.Table, m)
		out = append(out, flawed{n, api.ErrShape})
	}
	for a := 1; a <= 3; a++ {
		for r, fault := range wrongRules() {
			out = append(out, flawed{with(map[int]api.Table{a: append(tab("41 **** drop"), r)}), fault})
		}
		out = append(out,
			flawed{with(map[int]api.Table{a: append(dozen(), parsed("50 **** drop"))}), api.ErrFull},
			flawed{with(map[int]api.Table{a: tab("41 **** drop", "41 **** drop")}), api.ErrClash},
			flawed{with(map[int]api.Table{a: tab("41 1*** drop", "3 **** drop", "41 1*** out 2")}), api.ErrClash})
	}
	return out
}

// manyOps has n right Ops: a rule of switch 2 of world, added and taken away again.
func manyOps(n int) []api.Op {
	both := ops(add(2, "10 **** out 1"), take(2, "10 **** out 1"))
	return slices.Repeat(both, n/2+1)[:n]
}

// TestOpsOnWrongNets: the net is asked ahead of the Ops, whatever these are.
func TestOpsOnWrongNets(t *testing.T) {
	for _, x := range wrongNets() {
		for _, l := range [][]api.Op{
			nil, {}, manyOps(1), manyOps(200), manyOps(201), ops(api.Op{Switch: -1}),
			ops(take(1, "99 **** drop")), ops(api.Op{Switch: 1, Add: true, Rule: api.Rule{Value: 1}}),
		} {
			applyIs(t, x.net, l, api.Net{}, x.fault)
		}
	}
}

// TestOpsDoNotMendANet: an Op that would make a wrong table right comes too late.
func TestOpsDoNotMendANet(t *testing.T) {
	full := with(map[int]api.Table{2: append(dozen(), parsed("50 **** drop"))})
	applyIs(t, full, ops(take(2, "50 **** drop")), api.Net{}, api.ErrFull)
	twice := with(map[int]api.Table{2: tab("50 **** drop", "50 **** drop")})
	applyIs(t, twice, ops(take(2, "50 **** drop")), api.Net{}, api.ErrClash)
}

func TestTooManyOps(t *testing.T) {
	for _, n := range []int{2, 198, 200} {
		applyIs(t, world(), manyOps(n), world(), api.OK)
	}
	applyIs(t, world(), manyOps(199), with(map[int]api.Table{2: tab("10 **** out 1")}), api.OK)
	for _, n := range []int{201, 202, 5000} {
		applyIs(t, world(), manyOps(n), api.Net{}, api.ErrFull)
		// It is told ahead of what is wrong with any of them.
		for _, o := range ops(api.Op{}, api.Op{Switch: 4}, take(1, "99 **** drop"), add(1, "10 **** drop"),
			api.Op{Switch: 1, Rule: api.Rule{Value: 1}}) {
			applyIs(t, world(), slices.Repeat(ops(o), n), api.Net{}, api.ErrFull)
		}
	}
	// At 200 what is wrong with the last one is told.
	applyIs(t, world(), append(manyOps(199), api.Op{Switch: 4}), api.Net{}, api.ErrRange)
	applyIs(t, world(), append(manyOps(199), add(2, "10 **** out 1")), api.Net{}, api.ErrClash)
}

// TestSwitchesThatAreNone: told ahead of what is wrong with the rule, or with what it does.
func TestSwitchesThatAreNone(t *testing.T) {
	for n := 1; n <= 6; n++ {
		for _, a := range []int{0, -1, n + 1, n + 2, -n, 1 << 32, 1<<32 + 1, math.MinInt, math.MaxInt} {
			for _, adds := range []bool{true, false} {
				for _, r := range []api.Rule{parsed("10 **** out 1"), parsed("3 **** out 4"), {Value: 1}, {Cube: api.Cube{Bits: 1}}} {
					x := bare(slices.Repeat([]api.Table{dozen()}, n)...)
					applyIs(t, x, ops(api.Op{Switch: a, Add: adds, Rule: r}), api.Net{}, api.ErrRange)
				}
			}
		}
	}
}

// TestWrongRulesInOps: added or taken away, whatever the table has.
func TestWrongRulesInOps(t *testing.T) {
	for r, fault := range wrongRules() {
		for _, a := range []int{1, 2, 3} {
			for _, adds := range []bool{true, false} {
				o := api.Op{Switch: a, Add: adds, Rule: r}
				applyIs(t, world(), ops(o), api.Net{}, fault)
				applyIs(t, with(map[int]api.Table{a: dozen()}), ops(o), api.Net{}, fault)
				// One with its Prio and Cube is there, if its Cube is right.
				if there := (api.Rule{Prio: r.Prio, Cube: r.Cube}); wrongRules()[there] == api.OK {
					applyIs(t, with(map[int]api.Table{a: {there}}), ops(o), api.Net{}, fault)
				}
			}
		}
	}
}

func TestOpsThatClash(t *testing.T) {
	for _, s := range []string{"10 **** out 1", "10 **** out 2", "10 **** drop", "10 **** out 1 set 1***"} {
		applyIs(t, world(), ops(add(1, s)), api.Net{}, api.ErrClash)
		applyIs(t, world(), ops(add(3, s)), api.Net{}, api.ErrClash)
		applyIs(t, world(), ops(add(2, s)), with(map[int]api.Table{2: tab(s)}), api.OK)
	}
	// A clash is told ahead of a table that is full.
	for _, r := range dozen() {
		applyIs(t, bare(nil, dozen()), ops(api.Op{Switch: 2, Add: true, Rule: r}), api.Net{}, api.ErrClash)
		r.Out = 0
		applyIs(t, bare(nil, dozen()), ops(api.Op{Switch: 2, Add: true, Rule: r}), api.Net{}, api.ErrClash)
	}
}

func TestTablesThatAreFull(t *testing.T) {
	applyIs(t, bare(dozen(), nil), ops(add(1, "50 **** drop")), api.Net{}, api.ErrFull)
	applyIs(t, bare(dozen(), nil), ops(add(2, "50 **** drop")), bare(dozen(), tab("50 **** drop")), api.OK)
	applyIs(t, bare(dozen()[:11]), ops(add(1, "50 **** drop")), bare(append(dozen()[:11], parsed("50 **** drop"))), api.OK)
}

// TestRulesThatAreNotThere: nor is one that differs in but one number, or that another switch has.
func TestRulesThatAreNotThere(t *testing.T) {
	for _, o := range ops(
		take(2, "10 **** out 1"), take(1, "11 **** out 1"), take(1, "10 ***0 out 1"), take(1, "10 **** out 2"),
		take(1, "10 **** out 1 set ***0"), take(1, "10 **** drop"), take(1, "10 0*** out 4 set ***0"),
		take(3, "10 0*** out 4 set ***1"), take(3, "10 0*** out 4 set **0*"), take(3, "10 0*** out 4"),
	) {
		applyIs(t, world(), ops(o), api.Net{}, api.ErrNone)
	}
}

// TestALaterOpSeesAnEarlierOne: at its switch, and at no other.
func TestALaterOpSeesAnEarlierOne(t *testing.T) {
	s, u := "50 1*** out 3", "50 1*** drop"
	for _, x := range []struct {
		l     []api.Op
		fault api.Errno
	}{
		{ops(add(2, s), add(2, s)), api.ErrClash},
		{ops(add(2, s), add(2, u)), api.ErrClash},
		{ops(add(2, s), add(1, s)), api.OK},
		{ops(add(2, s), take(2, s)), api.OK},
		{ops(add(2, s), take(2, u)), api.ErrNone},
		{ops(add(2, s), take(1, s)), api.ErrNone},
		{ops(add(2, s), take(2, s), take(2, s)), api.ErrNone},
		{ops(add(2, s), take(2, s), add(2, u)), api.OK},
		{ops(take(1, "30 1111 drop"), take(1, "30 1111 drop")), api.ErrNone},
		{ops(take(1, "30 1111 drop"), add(1, "30 1111 out 1")), api.OK},
		{ops(take(1, "10 **** out 1"), add(3, "10 **** out 2")), api.ErrClash},
		{ops(take(1, "10 **** out 1"), take(3, "10 **** out 1")), api.OK},
	} {
		if _, err := Apply(world(), x.l); (err == nil) != (x.fault == api.OK) {
			t.Errorf("Apply of %v: %v, want %v", x.l, err, x.fault)
		}
		if x.fault != api.OK {
			applyIs(t, world(), x.l, api.Net{}, x.fault)
		}
	}
	first := api.Op{Switch: 1, Rule: dozen()[0]}
	rest := append(dozen()[1:], parsed(s))
	applyIs(t, bare(dozen()), ops(first, add(1, s)), bare(rest), api.OK)
	applyIs(t, bare(dozen()), ops(first, add(1, s), add(1, "51 **** drop")), api.Net{}, api.ErrFull)
	applyIs(t, bare(dozen()[:11], nil), ops(add(1, s), add(1, "51 **** drop")), api.Net{}, api.ErrFull)
	applyIs(t, bare(dozen()[:11], nil), ops(add(1, s), add(2, "51 **** drop")),
		bare(append(dozen()[:11], parsed(s)), tab("51 **** drop")), api.OK)
}

// TestSeveralWrongOps: what is wrong with the first is told, whatever stands ahead of it and behind.
func TestSeveralWrongOps(t *testing.T) {
	n := with(map[int]api.Table{3: dozen()})
	wrong := map[api.Errno][]api.Op{
		api.ErrRange: {{Switch: 4, Add: true}, {Switch: 0}, {Switch: 1, Rule: api.Rule{Prio: 100}}},
		api.ErrShape: {{Switch: 1, Rule: api.Rule{Value: 1}}, {Switch: 3, Add: true, Rule: api.Rule{Set: 1}}},
		api.ErrClash: {add(1, "10 **** out 4"), add(3, "5 **** drop")},
		api.ErrFull:  {add(3, "50 **** drop")},
		api.ErrNone:  {take(1, "50 **** drop"), take(2, "10 **** out 1")},
	}
	for fault, firsts := range wrong {
		for _, first := range firsts {
			for _, seconds := range wrong {
				for _, second := range seconds {
					applyIs(t, n, ops(first, second), api.Net{}, fault)
					applyIs(t, n, append(manyOps(4), first, take(1, "30 1111 drop"), second), api.Net{}, fault)
				}
			}
		}
	}
}

// TestTwoNetsOfWhichOneIsWrong: as the first one or the second one, with a topology that is the same or is not.
func TestTwoNetsOfWhichOneIsWrong(t *testing.T) {
	for _, x := range wrongNets() {
		for _, n := range []api.Net{world(), bare(nil), bare(nil, nil)} {
			sameIs(t, x.net, n, false, x.fault)
			sameIs(t, n, x.net, false, x.fault)
			diffIs(t, x.net, n, nil, x.fault)
			diffIs(t, n, x.net, nil, x.fault)
		}
	}
}

// TestTwoNetsThatAreWrong: what is wrong with the first one is told.
func TestTwoNetsThatAreWrong(t *testing.T) {
	all := wrongNets()
	for _, a := range all {
		for _, b := range all {
			sameIs(t, a.net, b.net, false, a.fault)
			diffIs(t, a.net, b.net, nil, a.fault)
		}
	}
}

// otherTopos has nets that are right, with the tables of world where they have as many, and another topology.
func otherTopos() []api.Net {
	var out []api.Net
	lay := func(change func(*api.Net)) {
		n := world()
		change(&n)
		out = append(out, n)
	}
	lay(func(n *api.Net) { n.Topo.Switches, n.Tables = 4, append(n.Tables, nil) })
	lay(func(n *api.Net) { n.Topo.Links = n.Topo.Links[:1] })
	lay(func(n *api.Net) { n.Topo.Links = append(n.Topo.Links, link(1, 2, 3, 2)) })
	lay(func(n *api.Net) { n.Topo.Links = nil })
	lay(func(n *api.Net) { n.Topo.Links[1].A.Port = 2 })
	lay(func(n *api.Net) { n.Topo.Links[1].B = spot(1, 2) })
	lay(func(n *api.Net) { slices.Reverse(n.Topo.Links) })
	lay(func(n *api.Net) { n.Topo.Links[0] = link(2, 1, 1, 1) })
	lay(func(n *api.Net) { n.Topo.Links[1] = link(2, 2, 3, 1) })
	lay(func(n *api.Net) { n.Topo.Hosts = n.Topo.Hosts[:1] })
	lay(func(n *api.Net) { n.Topo.Hosts = append(n.Topo.Hosts, host("dan", 2, 4)) })
	lay(func(n *api.Net) { n.Topo.Hosts = nil })
	lay(func(n *api.Net) { n.Topo.Hosts[1].Name = "dan" })
	lay(func(n *api.Net) { n.Topo.Hosts[1].At.Port = 3 })
	lay(func(n *api.Net) { n.Topo.Hosts[0].At.Switch = 2 })
	lay(func(n *api.Net) { slices.Reverse(n.Topo.Hosts) })
	lay(func(n *api.Net) { n.Topo.Hosts[0].Name, n.Topo.Hosts[1].Name = "cy", "ann" })
	return out
}

func TestToposThatDiffer(t *testing.T) {
	for _, b := range otherTopos() {
		sameIs(t, b, b, true, api.OK)
		sameIs(t, world(), b, false, api.OK)
		sameIs(t, b, world(), false, api.OK)
		diffIs(t, world(), b, nil, api.ErrShape)
		diffIs(t, b, world(), nil, api.ErrShape)
		// With other tables as well.
		b.Tables = slices.Clone(b.Tables)
		b.Tables[1] = dozen()
		sameIs(t, world(), b, false, api.OK)
		diffIs(t, world(), b, nil, api.ErrShape)
	}
	for n := 1; n <= 6; n++ {
		for m := 1; m <= 6; m++ {
			a, b := bare(make([]api.Table, n)...), bare(make([]api.Table, m)...)
			want := api.ErrShape
			if n == m {
				want = api.OK
			}
			sameIs(t, a, b, n == m, api.OK)
			diffIs(t, a, b, nil, want)
		}
	}
}
