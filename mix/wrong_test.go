package mix

import (
	"math"
	"slices"
	"testing"

	"railpoint/api"
)

var wrongHeaders = []int{-1, 16, 17, -16, 1 << 32, math.MinInt, math.MaxInt}

var wrongNames = []string{"", "a", "an", "annn", "Ann", "ann ", "dan", "a wrong name", "\x00", "\xff"}

// flawed is a net, or Ops on a net, with the fault.
type flawed struct {
	net   api.Net
	l     []api.Op
	fault api.Errno
}

// dozen has as many rules as may be.
func dozen() api.Table {
	var t api.Table
	for i := range 12 {
		t = append(t, api.Rule{Prio: i, Out: i%4 + 1})
	}
	return t
}

// wrongNets has each fault of chapter 6's Check, without Ops.
func wrongNets() []flawed {
	var out []flawed
	lay := func(fault api.Errno, spoil func(*api.Net)) {
		x := even("out 1", "out 2", "out 4")
		spoil(&x)
		out = append(out, flawed{net: x, fault: fault})
	}
	for _, n := range []int{0, -1, 7, math.MinInt, math.MaxInt} {
		lay(api.ErrRange, func(x *api.Net) { x.Topo.Switches = n })
	}
	lay(api.ErrFull, func(x *api.Net) { x.Topo.Links = slices.Repeat(x.Topo.Links, 67) })
	lay(api.ErrFull, func(x *api.Net) { x.Topo.Hosts = slices.Repeat(x.Topo.Hosts, 3) })
	lay(api.ErrRange, func(x *api.Net) { x.Topo.Links[1].A.Switch = 4 })
	lay(api.ErrRange, func(x *api.Net) { x.Topo.Links[2].B.Port = 5 })
	lay(api.ErrClash, func(x *api.Net) { x.Topo.Links[0].B = x.Topo.Links[0].A })
	lay(api.ErrClash, func(x *api.Net) { x.Topo.Links[2].B = x.Topo.Links[0].A })
	lay(api.ErrSyntax, func(x *api.Net) { x.Topo.Hosts[0].Name = "" })
	lay(api.ErrSyntax, func(x *api.Net) { x.Topo.Hosts[2].Name = "Bob" })
	lay(api.ErrRange, func(x *api.Net) { x.Topo.Hosts[2].At.Port = 0 })
	lay(api.ErrClash, func(x *api.Net) { x.Topo.Hosts[2].Name = "ann" })
	lay(api.ErrClash, func(x *api.Net) { x.Topo.Hosts[0].At = x.Topo.Links[0].A })
	for _, m := range []int{0, 1, 2, 4, 7} {
		lay(api.ErrShape, func(x *api.Net) { x.Tables = make([]api.Table, m) })
	}
	for i := range 3 {
		lay(api.ErrFull, func(x *api.Net) { x.Tables[i] = append(dozen(), parsed("50 **** drop")) })
		lay(api.ErrRange, func(x *api.Net) { x.Tables[i][0].Out = 5 })
		lay(api.ErrShape, func(x *api.Net) { x.Tables[i][0].Value = 1 })
		lay(api.ErrClash, func(x *api.Net) { x.Tables[i] = tab("1 **** drop", "1 **** out 1") })
	}
	return out
}

// wrongOps has each fault of chapter 9's Check of Ops on a right net.
func wrongOps() []flawed {
	x, full := even("out 1", "out 2", "out 4"), even("out 1", "out 2", "out 4")
	full.Tables[1] = dozen()
	right := slices.Concat(turn(1, "out 1", "drop"), turn(3, "out 4", "out 3"))
	out := []flawed{
		{x, slices.Repeat(ops(add(1, "20 **** drop"), take(1, "20 **** drop")), 101), api.ErrFull},
		{x, slices.Repeat(ops(api.Op{Switch: -1}), 201), api.ErrFull},
		{x, slices.Repeat(ops(add(1, "20 **** drop"), take(1, "20 **** drop")), 3000), api.ErrFull},
		{full, ops(add(2, "20 **** drop")), api.ErrFull},
	}
	for _, a := range []int{0, -1, 4, 7, math.MinInt, math.MaxInt} {
		out = append(out, flawed{x, ops(api.Op{Switch: a, Add: true, Rule: api.Rule{Value: 1}}), api.ErrRange})
		out = append(out, flawed{x, append(slices.Clone(right), api.Op{Switch: a}), api.ErrRange})
	}
	for _, ahead := range [][]api.Op{nil, right} {
		for fault, all := range map[api.Errno][]api.Op{
			api.ErrRange: {{Switch: 1, Rule: api.Rule{Prio: 100}}, {Switch: 2, Add: true, Rule: api.Rule{Out: -1}}},
			api.ErrShape: {{Switch: 1, Rule: api.Rule{Value: 1}}, {Switch: 3, Add: true, Rule: api.Rule{Set: 1}}},
			api.ErrClash: {add(2, "10 **** out 2"), add(2, "10 **** drop")},
			api.ErrNone:  {take(2, "10 **** drop"), take(2, "11 **** out 2"), take(1, "10 **** out 2")},
		} {
			for _, o := range all {
				out = append(out, flawed{x, append(slices.Clone(ahead), o), fault})
			}
		}
	}
	// The first that is wrong is told, whatever is behind it.
	out = append(out,
		flawed{x, ops(take(2, "10 **** drop"), add(2, "10 **** drop"), api.Op{Switch: 9}), api.ErrNone},
		flawed{x, ops(add(2, "10 **** drop"), take(2, "10 **** drop"), api.Op{Switch: 9}), api.ErrClash},
		flawed{x, ops(api.Op{Switch: 9}, add(2, "10 **** drop"), take(2, "10 **** drop")), api.ErrRange})
	return out
}

// wrongWishes has each fault of chapter 8's Check of wishes on the ring.
func wrongWishes() map[api.Errno][][]api.Wish {
	out := map[api.Errno][][]api.Wish{
		api.ErrFull: {slices.Repeat(wishes(loops()), 9), make([]api.Wish, 9), make([]api.Wish, 3000)},
		api.ErrRange: {{{}}, {{What: 5}}, {{What: -1}}, {{What: math.MaxInt}}, {way("ann", "cy", 0)}, {way("ann", "cy", 4)},
			{way("ann", "cy", math.MinInt)}, {{What: 4, Via: 1}}, {{What: 1, From: "ann", To: "cy", Via: 1}},
			{{What: 2, From: "ann", To: "cy", Via: -1}}, {way("dan", "", 0)}, {{What: 4, Via: 1, From: "ann"}}},
		api.ErrShape: {{{What: 4, From: "ann"}}, {{What: 4, To: "dan"}}},
		api.ErrNone:  {{reach("dan", "ann")}, {reach("ann", "dan")}, {apart("", "ann")}, {way("ann", "Ann", 1)}, {reach("dan", "dan")}},
	}
	for fault, lists := range out {
		for _, w := range slices.Clone(lists) {
			if len(w) == 1 {
				// Behind one that holds, one that does not, and ahead of one that is wrong otherwise.
				out[fault] = append(out[fault], wishes(reach("cy", "cy"), w[0]), wishes(apart("cy", "cy"), w[0]),
					wishes(w[0], api.Wish{What: 9}), wishes(w[0], reach("dan", "ann")))
			}
		}
	}
	return out
}

// names has all names: those of the ring, and wrong ones.
func names() []string { return append([]string{"ann", "bob", "cy"}, wrongNames...) }

// TestWrongNetsAndOps: they are told ahead of whatever is wrong with the name, the header, or the wishes.
func TestWrongNetsAndOps(t *testing.T) {
	lists := [][]api.Wish{nil, wishes(loops()), wishes(apart("ann", "cy"), reach("ann", "bob"))}
	for _, all := range wrongWishes() {
		lists = append(lists, all...)
	}
	for _, c := range slices.Concat(wrongNets(), wrongOps()) {
		for _, name := range names() {
			for _, header := range append([]int{0, 15}, wrongHeaders...) {
				seenFails(t, c.net, c.l, name, header, c.fault)
			}
		}
		for _, w := range lists {
			safeIs(t, c.net, c.l, w, api.Proof{}, c.fault)
		}
	}
}

// TestWrongNetsWithWrongOps: the net is told ahead of the Ops.
func TestWrongNetsWithWrongOps(t *testing.T) {
	for _, c := range wrongNets() {
		for _, d := range wrongOps() {
			seenFails(t, c.net, d.l, "ann", 0, c.fault)
			seenFails(t, c.net, d.l, "dan", -1, c.fault)
			safeIs(t, c.net, d.l, wishes(loops()), api.Proof{}, c.fault)
			safeIs(t, c.net, d.l, wishes(reach("dan", "ann")), api.Proof{}, c.fault)
		}
	}
}

// rightLists has Ops that can be done on the net that detour has.
func rightLists() [][]api.Op {
	_, l := detour("out 1")
	return [][]api.Op{nil, l[:2], l, slices.Repeat(ops(add(1, "20 **** drop"), take(1, "20 **** drop")), 100)}
}

// TestPacketsThatAreNone: a name that no host has is told ahead of a header that is none.
func TestPacketsThatAreNone(t *testing.T) {
	x, _ := detour("out 1")
	for _, l := range rightLists() {
		for _, name := range wrongNames {
			for _, header := range append([]int{0, 7, 15}, wrongHeaders...) {
				seenFails(t, x, l, name, header, api.ErrNone)
			}
		}
		for _, h := range x.Topo.Hosts {
			for _, header := range wrongHeaders {
				seenFails(t, x, l, h.Name, header, api.ErrRange)
			}
			for _, header := range []int{0, 15} {
				if got, err := Seen(x, l, h.Name, header); len(got) == 0 || err != nil {
					t.Errorf("Seen of %s and %d: %v, %v", h.Name, header, got, err)
				}
			}
		}
		// Without hosts there is no name.
		bare := x
		bare.Topo.Hosts = nil
		seenFails(t, bare, l, "ann", 0, api.ErrNone)
		seenFails(t, bare, l, "", 16, api.ErrNone)
	}
}

// TestSafeOfWrongWishes: they are told ahead of those that are broken, also where these stand ahead of them.
func TestSafeOfWrongWishes(t *testing.T) {
	x, _ := detour("out 1")
	for _, l := range rightLists() {
		for fault, all := range wrongWishes() {
			for _, w := range all {
				safeIs(t, x, l, w, api.Proof{}, fault)
			}
		}
		safeIs(t, x, l, slices.Repeat(wishes(apart("cy", "ann")), 8), api.Proof{}, api.OK)
		safeIs(t, x, l, slices.Repeat(wishes(apart("cy", "cy")), 8), api.Proof{From: "cy"}, api.ErrBroken)
		// Also where no host could send what would break them.
		bare := x
		bare.Topo.Hosts = nil
		safeIs(t, bare, l, wishes(reach("ann", "cy")), api.Proof{}, api.ErrNone)
		safeIs(t, bare, l, wishes(loops()), api.Proof{}, api.OK)
	}
}

// TestOpsAreAskedOneByOne: a later one that sees what an earlier one did, at its switch and at no other.
func TestOpsAreAskedOneByOne(t *testing.T) {
	x := even("out 4", "out 4", "out 4")
	s := "50 1*** out 3"
	for _, c := range []struct {
		l     []api.Op
		fault api.Errno
	}{
		{ops(add(2, s), add(2, s)), api.ErrClash},
		{ops(add(2, s), take(1, s)), api.ErrNone},
		{ops(add(2, s), take(2, s), take(2, s)), api.ErrNone},
	} {
		seenFails(t, x, c.l, "ann", 0, c.fault)
		safeIs(t, x, c.l, wishes(reach("ann", "ann")), api.Proof{}, c.fault)
	}
	for _, l := range [][]api.Op{ops(add(2, s), add(1, s)), ops(add(2, s), take(2, s)), ops(add(2, s), take(2, s), add(2, s))} {
		seenAre(t, x, l, "ann", 0, arrived("ann", 1, 4, 0))
		safeIs(t, x, l, wishes(reach("cy", "cy")), api.Proof{}, api.OK)
	}
}
