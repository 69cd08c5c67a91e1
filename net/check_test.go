package net

import (
	"math"
	"reflect"
	"slices"
	"testing"

	"railpoint/api"
	"railpoint/plain"
	"railpoint/rule"
)

func spot(a, port int) api.Spot { return api.Spot{Switch: a, Port: port} }

func link(a, ap, b, bp int) api.Link { return api.Link{A: spot(a, ap), B: spot(b, bp)} }

func host(name string, a, port int) api.Host { return api.Host{Name: name, At: spot(a, port)} }

// tab is the table of rules that are written out.
func tab(texts ...string) api.Table {
	var t api.Table
	for _, s := range texts {
		r, err := rule.Parse(s)
		if err != nil {
			panic(s)
		}
		t = append(t, r)
	}
	return t
}

// world is a right net: the line 1 - 2 - 3 with ann, bob and cy at its switches, each on port 4, and nothing on most other ports.
func world() api.Net {
	return api.Net{
		Topo: api.Topo{
			Switches: 3,
			Links:    []api.Link{link(1, 1, 2, 1), link(3, 1, 2, 2)},
			Hosts:    []api.Host{host("ann", 1, 4), host("bob", 2, 4), host("cy", 3, 4)},
		},
		Tables: []api.Table{
			tab("10 **** out 1", "20 *0** out 4", "30 1111 drop", "30 1110 out 1 set 0*0*"),
			tab("10 1*** out 1", "10 01** out 2", "10 **** out 4"),
			tab("10 0*** out 4 set ***0", "20 01*1 out 2", "5 1*** out 1"),
		},
	}
}

// empty is a right net of n switches that nothing is joined to, and without rules.
func empty(n int) api.Net {
	return api.Net{Topo: api.Topo{Switches: n}, Tables: make([]api.Table, n)}
}

// checkIs fails unless Check tells just that, and every other call as well, whatever else is wrong.
func checkIs(t *testing.T, n api.Net, want api.Errno) {
	t.Helper()
	if got := plain.Told(Check(n)); got != want {
		t.Errorf("Check(%v): %v, want %v", n, got, want)
	}
	if want == api.OK {
		return
	}
	for _, header := range []int{0, 15, -1, 16} {
		for _, s := range []api.Spot{spot(1, 1), spot(1, 4), spot(3, 4), spot(0, 0), spot(7, 5), spot(1, 0)} {
			stepIs(t, n, s, header, api.Spot{}, 0, want)
			fromIs(t, n, s, header, api.Fate{}, want)
		}
		for _, name := range []string{"", "a", "ann", "none", "wrong name"} {
			sendIs(t, n, name, header, api.Fate{}, want)
		}
	}
}

func stepIs(t *testing.T, n api.Net, at api.Spot, header int, want api.Spot, with int, fault api.Errno) {
	t.Helper()
	s, h, err := Step(n, at, header)
	if s != want || h != with || plain.Told(err) != fault {
		t.Errorf("Step(%v, %v, %d): %v, %d, %v, want %v, %d, %v", n, at, header, s, h, err, want, with, fault)
	}
}

func fromIs(t *testing.T, n api.Net, at api.Spot, header int, want api.Fate, fault api.Errno) {
	t.Helper()
	f, err := From(n, at, header)
	if !reflect.DeepEqual(f, want) || plain.Told(err) != fault {
		t.Errorf("From(%v, %v, %d): %v, %v, want %v, %v", n, at, header, f, err, want, fault)
	}
}

func sendIs(t *testing.T, n api.Net, name string, header int, want api.Fate, fault api.Errno) {
	t.Helper()
	f, err := Send(n, name, header)
	if !reflect.DeepEqual(f, want) || plain.Told(err) != fault {
		t.Errorf("Send(%v, %q, %d): %v, %v, want %v, %v", n, name, header, f, err, want, fault)
	}
}

// full has twelve rules, as many as may be.
func full() api.Table {
	var t api.Table
	for i := range 12 {
		t = append(t, api.Rule{Prio: 99 - i, Out: i%4 + 1})
	}
	return t
}

func TestRightNets(t *testing.T) {
	checkIs(t, world(), api.OK)
	for n := 1; n <= 6; n++ {
		checkIs(t, empty(n), api.OK)
		x := empty(n)
		for i := range n {
			x.Tables[i] = full()
		}
		checkIs(t, x, api.OK)
		x.Tables[n-1] = api.Table{}
		checkIs(t, x, api.OK)
	}
}

// TestFaultsOfTheTopo: each that chapter 5 names is told.
func TestFaultsOfTheTopo(t *testing.T) {
	for fault, l := range map[api.Errno][]api.Topo{
		api.ErrRange: {
			{}, {Switches: -1}, {Switches: 7}, {Switches: math.MinInt}, {Switches: math.MaxInt},
			{Switches: 2, Links: []api.Link{link(1, 1, 3, 1)}},
			{Switches: 2, Links: []api.Link{link(1, 5, 2, 1)}},
			{Switches: 2, Hosts: []api.Host{host("a", 2, 0)}},
		},
		api.ErrFull: {
			{Switches: 2, Links: slices.Repeat([]api.Link{link(1, 1, 2, 1)}, 201)},
			{Switches: 2, Hosts: slices.Repeat([]api.Host{host("a", 1, 1)}, 9)},
		},
		api.ErrSyntax: {
			{Switches: 2, Hosts: []api.Host{host("", 1, 1)}},
			{Switches: 2, Hosts: []api.Host{host("wrongly", 1, 1)}},
		},
		api.ErrClash: {
			{Switches: 2, Links: []api.Link{link(1, 1, 1, 1)}},
			{Switches: 2, Links: []api.Link{link(1, 1, 2, 1), link(2, 1, 1, 2)}},
			{Switches: 2, Links: []api.Link{link(1, 1, 2, 1)}, Hosts: []api.Host{host("a", 2, 1)}},
			{Switches: 2, Hosts: []api.Host{host("a", 2, 1), host("a", 1, 1)}},
		},
	} {
		for _, x := range l {
			checkIs(t, api.Net{Topo: x, Tables: make([]api.Table, min(max(x.Switches, 0), 8))}, fault)
		}
	}
}

func TestHowManyTables(t *testing.T) {
	for n := 1; n <= 6; n++ {
		for m := range 9 {
			want := api.ErrShape
			if m == n {
				want = api.OK
			}
			checkIs(t, api.Net{Topo: api.Topo{Switches: n}, Tables: make([]api.Table, m)}, want)
		}
		checkIs(t, api.Net{Topo: api.Topo{Switches: n}}, api.ErrShape)
		checkIs(t, api.Net{Topo: api.Topo{Switches: n}, Tables: make([]api.Table, 5000)}, api.ErrShape)
	}
	few, many := world(), world()
	few.Tables = few.Tables[:2]
	many.Tables = append(many.Tables, tab("10 **** out 1"))
	checkIs(t, few, api.ErrShape)
	checkIs(t, many, api.ErrShape)
}

// wrongTables has each fault that chapter 3 names of a table.
func wrongTables() map[api.Errno][]api.Table {
	one := func(r api.Rule) api.Table { return api.Table{{Prio: 98, Out: 1}, r} }
	return map[api.Errno][]api.Table{
		api.ErrFull: {append(full(), api.Rule{Out: 1}), slices.Repeat(full(), 300)},
		api.ErrRange: {one(api.Rule{Prio: -1}), one(api.Rule{Prio: 100}), one(api.Rule{Out: 5}), one(api.Rule{Out: -1}),
			one(api.Rule{Out: 1, Set: 16}), one(api.Rule{Out: 1, Set: 15, Value: -1}), one(api.Rule{Cube: api.Cube{Mask: 16}})},
		api.ErrShape: {one(api.Rule{Cube: api.Cube{Bits: 1}}), one(api.Rule{Set: 1}), one(api.Rule{Out: 1, Set: 2, Value: 1})},
		api.ErrClash: {one(api.Rule{Prio: 98}), one(api.Rule{Prio: 98, Out: 2})},
	}
}

// TestAWrongTable: at each switch, the first, one in the middle and the last one, whatever the others have.
func TestAWrongTable(t *testing.T) {
	for fault, l := range wrongTables() {
		for _, bad := range l {
			for i := range 3 {
				x := world()
				x.Tables[i] = bad
				checkIs(t, x, fault)
			}
			for n := 1; n <= 6; n++ {
				for i := range n {
					x := empty(n)
					x.Tables[i] = bad
					checkIs(t, x, fault)
				}
			}
		}
	}
}

// TestOneTableIsHeldAgainstItselfAlone: switches may have rules alike, and more than twelve in all.
func TestOneTableIsHeldAgainstItselfAlone(t *testing.T) {
	x := world()
	x.Tables = []api.Table{full(), full(), full()}
	checkIs(t, x, api.OK)
}

// TestSeveralFaults: the topology is told ahead of how many tables there are, and that ahead of what is wrong with one.
func TestSeveralFaults(t *testing.T) {
	wrong := wrongTables()
	twice, ill := world().Topo, world().Topo
	twice.Links = append(twice.Links, twice.Links[0])
	ill.Hosts = append(ill.Hosts, host("Z", 3, 3))
	for _, fault := range []api.Errno{api.ErrFull, api.ErrRange, api.ErrShape, api.ErrClash} {
		for n := range 6 {
			tables := slices.Repeat([]api.Table{wrong[fault][0]}, n)
			checkIs(t, api.Net{Topo: twice, Tables: tables}, api.ErrClash)
			checkIs(t, api.Net{Topo: ill, Tables: tables}, api.ErrSyntax)
			checkIs(t, api.Net{Tables: tables}, api.ErrRange)
			if n != 3 {
				checkIs(t, api.Net{Topo: world().Topo, Tables: tables}, api.ErrShape)
			}
		}
	}
	checkIs(t, api.Net{Topo: twice}, api.ErrClash)
	checkIs(t, api.Net{Topo: ill, Tables: make([]api.Table, 2)}, api.ErrSyntax)
}

// TestTwoWrongTables: what is wrong with the first one is told.
func TestTwoWrongTables(t *testing.T) {
	wrong := wrongTables()
	faults := []api.Errno{api.ErrFull, api.ErrRange, api.ErrShape, api.ErrClash}
	for _, first := range faults {
		for _, second := range faults {
			for _, places := range [][2]int{{0, 1}, {0, 2}, {1, 2}} {
				x := world()
				x.Tables[places[0]] = wrong[first][len(wrong[first])-1]
				x.Tables[places[1]] = wrong[second][0]
				checkIs(t, x, first)
			}
		}
	}
}
