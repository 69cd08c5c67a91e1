package plan

import (
	"math"
	"slices"
	"testing"

	"railpoint/api"
)

// allFail fails unless all three tell that, with nothing else, whatever the Rounds are.
func allFail(t *testing.T, a, b api.Net, w []api.Wish, fault api.Errno) {
	t.Helper()
	bothAre(t, a, b, w, nil, fault)
	for _, l := range [][]api.Round{nil, {nil}, {turn(1, "out 1", "out 2"), turn(2, "out 2", "out 4")}, flip(21), {nil, {{Switch: 9}}}} {
		verifyIs(t, a, b, w, l, 0, fault)
	}
}

// flawed is a net that is not right, with the fault.
type flawed struct {
	net   api.Net
	fault api.Errno
}

// wrongNets has each fault of chapter 6's Check.
func wrongNets() []flawed {
	var out []flawed
	lay := func(fault api.Errno, spoil func(*api.Net)) {
		x, _ := detour()
		spoil(&x)
		out = append(out, flawed{x, fault})
	}
	for _, n := range []int{0, -1, 7, math.MinInt, math.MaxInt} {
		lay(api.ErrRange, func(x *api.Net) { x.Topo.Switches = n })
	}
	lay(api.ErrFull, func(x *api.Net) { x.Topo.Links = slices.Repeat(x.Topo.Links, 67) })
	lay(api.ErrFull, func(x *api.Net) { x.Topo.Hosts = slices.Repeat(x.Topo.Hosts, 3) })
	lay(api.ErrRange, func(x *api.Net) { x.Topo.Links[2].A.Port = 0 })
	lay(api.ErrClash, func(x *api.Net) { x.Topo.Links[1].B = x.Topo.Links[0].A })
	lay(api.ErrSyntax, func(x *api.Net) { x.Topo.Hosts[1].Name = "Ann" })
	lay(api.ErrRange, func(x *api.Net) { x.Topo.Hosts[2].At.Switch = 4 })
	lay(api.ErrClash, func(x *api.Net) { x.Topo.Hosts[2].Name = "ann" })
	for _, n := range []int{0, 2, 4} {
		lay(api.ErrShape, func(x *api.Net) { x.Tables = make([]api.Table, n) })
	}
	for i := range 3 {
		lay(api.ErrFull, func(x *api.Net) { x.Tables[i] = make(api.Table, 13) })
		lay(api.ErrRange, func(x *api.Net) { x.Tables[i][0].Out = 5 })
		lay(api.ErrShape, func(x *api.Net) { x.Tables[i][0].Value = 1 })
		lay(api.ErrClash, func(x *api.Net) { x.Tables[i] = tab("1 **** drop", "1 **** out 1") })
	}
	return out
}

// otherNets are right, of another topology than detour has.
func otherNets() []api.Net {
	var out []api.Net
	lay := func(spoil func(*api.Net)) {
		_, x := detour()
		spoil(&x)
		out = append(out, x)
	}
	lay(func(x *api.Net) { x.Topo.Switches, x.Tables = 4, append(x.Tables, nil) })
	lay(func(x *api.Net) { x.Topo.Links = nil })
	lay(func(x *api.Net) { x.Topo.Links = x.Topo.Links[:2] })
	lay(func(x *api.Net) { slices.Reverse(x.Topo.Links) })
	lay(func(x *api.Net) { x.Topo.Links[0].A, x.Topo.Links[0].B = x.Topo.Links[0].B, x.Topo.Links[0].A })
	lay(func(x *api.Net) { x.Topo.Hosts = nil })
	lay(func(x *api.Net) { x.Topo.Hosts[2].Name = "dan" })
	lay(func(x *api.Net) { x.Topo.Hosts[2].At.Port = 3 })
	lay(func(x *api.Net) { slices.Reverse(x.Topo.Hosts) })
	return out
}

// wrongWishes has each fault of chapter 8's Check, of wishes on the ring.
func wrongWishes() map[api.Errno][][]api.Wish {
	return map[api.Errno][][]api.Wish{
		api.ErrFull: {slices.Repeat(wishes(loops()), 9), make([]api.Wish, 9), make([]api.Wish, 3000)},
		api.ErrRange: {{{}}, {{What: 5}}, {{What: -1}}, {way("ann", "cy", 0)}, {way("ann", "cy", 4)}, {way("dan", "cy", math.MaxInt)},
			{{What: 4, Via: 1}}, {{What: 1, From: "ann", To: "cy", Via: 1}}, {loops(), {}, reach("ann", "dan")}},
		api.ErrShape: {{{What: 4, From: "ann"}}, {{What: 4, To: "dan"}}, {apart("ann", "cy"), {What: 4, From: "ann"}, {}}},
		api.ErrNone:  {{reach("dan", "ann")}, {reach("ann", "dan")}, {apart("", "ann")}, {way("ann", "Ann", 1)}, {reach("ann", "bob"), reach("cy", "dan")}},
	}
}

// someWishes has lists that hold, that do not, and that are wrong.
func someWishes() [][]api.Wish {
	out := [][]api.Wish{nil, {reach("ann", "cy"), loops()}, {reach("ann", "bob")}}
	for _, all := range wrongWishes() {
		out = append(out, all[0])
	}
	return out
}

// TestWrongNets: the first one is asked ahead of the second one, and both ahead of whether they go together, and of the
// wishes.
func TestWrongNets(t *testing.T) {
	right, _ := detour()
	for _, c := range wrongNets() {
		for _, w := range someWishes() {
			allFail(t, c.net, right, w, c.fault)
			allFail(t, right, c.net, w, c.fault)
		}
		for _, d := range wrongNets() {
			allFail(t, c.net, d.net, nil, c.fault)
		}
		for _, other := range otherNets() {
			allFail(t, c.net, other, nil, c.fault)
			allFail(t, other, c.net, nil, c.fault)
		}
	}
}

// TestOtherTopologies: they are told ahead of the wishes, also where these are about hosts of one net alone.
func TestOtherTopologies(t *testing.T) {
	right, _ := detour()
	for _, other := range otherNets() {
		for _, w := range append(someWishes(), wishes(reach("ann", "dan"))) {
			allFail(t, right, other, w, api.ErrShape)
			allFail(t, other, right, w, api.ErrShape)
		}
		bothAre(t, other, other, nil, nil, api.OK)
	}
}

// TestWrongWishes: they are told ahead of all that is wrong with Rounds, and of wishes that do not hold.
func TestWrongWishes(t *testing.T) {
	a, b := detour()
	for fault, all := range wrongWishes() {
		for _, w := range all {
			allFail(t, a, b, w, fault)
			allFail(t, b, a, w, fault)
			allFail(t, a, a, w, fault)
		}
	}
	// Eight are not too many.
	w := slices.Repeat(wishes(reach("ann", "cy")), 8)
	bothAre(t, a, b, w, inSets(a, b, []int{1}, []int{2}), api.OK)
	// Without hosts there is none to ask for.
	a.Topo.Hosts, b.Topo.Hosts = nil, nil
	allFail(t, a, b, w, api.ErrNone)
	bothAre(t, a, b, wishes(loops()), inSets(a, b, []int{1, 2}), api.OK)
}

// TestNothingComesWithAnError: whichever it is, and not the Rounds ahead of one that would be empty.
func TestNothingComesWithAnError(t *testing.T) {
	a, b := detour()
	for _, c := range []struct {
		a, b  api.Net
		w     []api.Wish
		fault api.Errno
	}{
		{api.Net{}, b, nil, api.ErrRange}, {a, api.Net{}, nil, api.ErrRange}, {a, otherNets()[0], nil, api.ErrShape},
		{a, b, make([]api.Wish, 9), api.ErrFull}, {a, b, wishes(apart("ann", "cy")), api.ErrBroken}, {a, b, wishes(reach("bob", "cy")), api.ErrBroken},
	} {
		bothAre(t, c.a, c.b, c.w, nil, c.fault)
	}
}
