package class

import (
	"math"
	"slices"
	"testing"

	"railpoint/api"
)

func spot(a, port int) api.Spot { return api.Spot{Switch: a, Port: port} }

func link(a, ap, b, bp int) api.Link { return api.Link{A: spot(a, ap), B: spot(b, bp)} }

func host(name string, a, port int) api.Host { return api.Host{Name: name, At: spot(a, port)} }

// world is a right net of three switches in a line, with hosts.
func world() api.Net {
	return api.Net{
		Topo: api.Topo{
			Switches: 3,
			Links:    []api.Link{link(1, 1, 2, 1), link(3, 1, 2, 2)},
			Hosts:    []api.Host{host("ann", 1, 4), host("cy", 3, 4)},
		},
		Tables: []api.Table{
			tab("10 **** out 1", "20 *0** out 4", "30 1111 drop", "30 1110 out 1 set 0*0*"),
			tab("10 1*** out 1", "10 01** out 2", "10 **** out 4"),
			tab("10 0*** out 4 set ***0", "20 01*1 out 2", "5 1*** out 1"),
		},
	}
}

// wrongTables has each fault that chapter 3 names of a table.
func wrongTables() map[api.Errno][]api.Table {
	one := func(r api.Rule) api.Table { return api.Table{{Prio: 98, Out: 1}, r} }
	return map[api.Errno][]api.Table{
		api.ErrFull: {append(dozen(0), api.Rule{Out: 1}), slices.Repeat(dozen(0), 300)},
		api.ErrRange: {one(api.Rule{Prio: -1}), one(api.Rule{Prio: 100}), one(api.Rule{Out: 5}), one(api.Rule{Out: -1}),
			one(api.Rule{Out: 1, Set: 16}), one(api.Rule{Out: 1, Set: 15, Value: -1}),
			one(api.Rule{Cube: api.Cube{Mask: 16}}), one(api.Rule{Cube: api.Cube{Mask: 15, Bits: -1}})},
		api.ErrShape: {one(api.Rule{Cube: api.Cube{Bits: 1}}), one(api.Rule{Set: 1}), one(api.Rule{Out: 1, Set: 2, Value: 1})},
		api.ErrClash: {one(api.Rule{Prio: 98}), one(api.Rule{Prio: 98, Out: 2})},
	}
}

var faultsOfTables = []api.Errno{api.ErrFull, api.ErrRange, api.ErrShape, api.ErrClash}

// netIs fails unless both calls tell that fault of a net, and nothing beside it, whatever the header is.
func netIs(t *testing.T, n api.Net, fault api.Errno) {
	t.Helper()
	allIs(t, n, nil, fault)
	for _, header := range []int{0, 15, -1, 16, math.MinInt, math.MaxInt} {
		pathIs(t, n, header, nil, fault)
	}
}

func TestWrongTables(t *testing.T) {
	for fault, l := range wrongTables() {
		for _, bad := range l {
			ofIs(t, bad, nil, fault)
			for i := range 3 {
				n := world()
				n.Tables[i] = bad
				netIs(t, n, fault)
			}
			for n := 1; n <= 6; n++ {
				for i := range n {
					tables := make([]api.Table, n)
					tables[i] = bad
					netIs(t, bare(tables...), fault)
				}
			}
		}
	}
}

// TestSeveralFaultsOfATable: too many is told ahead of all; else what is wrong with the first rule that has a fault.
func TestSeveralFaultsOfATable(t *testing.T) {
	far, misfit, twin := api.Rule{Prio: 100}, api.Rule{Prio: 1, Value: 1}, api.Rule{Prio: 98, Out: 3}
	first := api.Rule{Prio: 98, Out: 1}
	for _, bad := range []api.Rule{far, misfit, first} {
		ofIs(t, slices.Repeat(api.Table{bad}, 13), nil, api.ErrFull)
	}
	ofIs(t, api.Table{first, far, misfit, twin}, nil, api.ErrRange)
	ofIs(t, api.Table{first, misfit, far, twin}, nil, api.ErrShape)
	ofIs(t, api.Table{first, twin, far, misfit}, nil, api.ErrClash)
	ofIs(t, api.Table{first, far, far}, nil, api.ErrRange)
	ofIs(t, api.Table{first, {Prio: 98, Set: 1}}, nil, api.ErrShape)
}

func TestTwoWrongTables(t *testing.T) {
	wrong := wrongTables()
	for _, first := range faultsOfTables {
		for _, second := range faultsOfTables {
			for _, places := range [][2]int{{0, 1}, {0, 2}, {1, 2}} {
				n := world()
				n.Tables[places[0]] = wrong[first][len(wrong[first])-1]
				n.Tables[places[1]] = wrong[second][0]
				netIs(t, n, first)
			}
		}
	}
}

func TestWrongTopos(t *testing.T) {
	for fault, l := range map[api.Errno][]api.Topo{
		api.ErrRange: {
			{}, {Switches: -1}, {Switches: 7}, {Switches: math.MinInt}, {Switches: math.MaxInt},
			{Switches: 2, Links: []api.Link{link(1, 1, 3, 1)}},
			{Switches: 2, Links: []api.Link{link(1, 5, 2, 1)}},
			{Switches: 2, Hosts: []api.Host{host("a", 2, 0)}},
		},
		api.ErrFull: {
			{Switches: 2, Links: slices.Repeat([]api.Link{link(1, 1, 2, 1)}, 201)},
			{Switches: 2, Hosts: slices.Repeat([]api.Host{host("a", 1, 1)}, 9)},
		},
		api.ErrSyntax: {
			{Switches: 2, Hosts: []api.Host{host("", 1, 1)}},
			{Switches: 2, Hosts: []api.Host{host("wrongly", 1, 1)}},
		},
		api.ErrClash: {
			{Switches: 2, Links: []api.Link{link(1, 1, 1, 1)}},
			{Switches: 2, Links: []api.Link{link(1, 1, 2, 1), link(2, 1, 1, 2)}},
			{Switches: 2, Links: []api.Link{link(1, 1, 2, 1)}, Hosts: []api.Host{host("a", 2, 1)}},
			{Switches: 2, Hosts: []api.Host{host("a", 2, 1), host("a", 1, 1)}},
		},
	} {
		for _, x := range l {
			netIs(t, api.Net{Topo: x, Tables: make([]api.Table, min(max(x.Switches, 0), 8))}, fault)
		}
	}
}

func TestHowManyTables(t *testing.T) {
	for n := 1; n <= 6; n++ {
		for _, m := range []int{0, 1, 2, 3, 4, 5, 6, 7, 8, 5000} {
			if m != n {
				netIs(t, api.Net{Topo: api.Topo{Switches: n}, Tables: make([]api.Table, m)}, api.ErrShape)
			}
		}
	}
}

// TestSeveralFaultsOfANet: the topology is told ahead of how many tables there are, and that ahead of what is wrong with one.
func TestSeveralFaultsOfANet(t *testing.T) {
	wrong := wrongTables()
	twice, ill := world().Topo, world().Topo
	twice.Links = append(twice.Links, twice.Links[0])
	ill.Hosts = append(ill.Hosts, host("Z", 3, 3))
	for _, fault := range faultsOfTables {
		for n := range 6 {
			tables := slices.Repeat([]api.Table{wrong[fault][0]}, n)
			netIs(t, api.Net{Topo: twice, Tables: tables}, api.ErrClash)
			netIs(t, api.Net{Topo: ill, Tables: tables}, api.ErrSyntax)
			netIs(t, api.Net{Tables: tables}, api.ErrRange)
			if n != 3 {
				netIs(t, api.Net{Topo: world().Topo, Tables: tables}, api.ErrShape)
			}
		}
	}
}

// TestHeadersThatAreNone: whether or not a rule counts.
func TestHeadersThatAreNone(t *testing.T) {
	for _, n := range []api.Net{world(), bare(nil), bare(nil, nil, nil, nil, nil, nil), bare(tab("10 **** out 4"))} {
		for _, header := range []int{-1, 16, 17, 31, 32, -16, 1 << 32, math.MinInt, math.MaxInt} {
			pathIs(t, n, header, nil, api.ErrRange)
		}
	}
	pathIs(t, world(), 0, []int{1, 2, 0}, api.OK)
	pathIs(t, world(), 15, []int{2, 0, 2}, api.OK)
}
