package plan

import (
	"slices"
	"testing"

	"railpoint/api"
	"railpoint/plain"
	"railpoint/rule"
)

func spot(a, port int) api.Spot { return api.Spot{Switch: a, Port: port} }

func link(a, ap, b, bp int) api.Link { return api.Link{A: spot(a, ap), B: spot(b, bp)} }

func host(name string, a, port int) api.Host { return api.Host{Name: name, At: spot(a, port)} }

// tab is the table of rules that are written out.
func tab(texts ...string) api.Table {
	var t api.Table
	for _, s := range texts {
		r, err := rule.Parse(s)
		if err != nil {
			panic(s)
		}
		t = append(t, r)
	}
	return t
}

func add(a int, s string) api.Op { return api.Op{Switch: a, Add: true, Rule: tab(s)[0]} }

func take(a int, s string) api.Op { return api.Op{Switch: a, Rule: tab(s)[0]} }

func reach(from, to string) api.Wish { return api.Wish{What: 1, From: from, To: to} }

func apart(from, to string) api.Wish { return api.Wish{What: 2, From: from, To: to} }

func way(from, to string, via int) api.Wish { return api.Wish{What: 3, From: from, To: to, Via: via} }

func loops() api.Wish { return api.Wish{What: 4} }

func wishes(l ...api.Wish) []api.Wish { return l }

func rounds(l ...api.Round) []api.Round { return l }

// even is a ring of three switches, each joined with both others at the ports 1 and 2, with nothing at port 3 and a
// host at port 4; each has one rule, for all headers: what is written.
func even(first, second, third string) api.Net {
	return api.Net{
		Topo: api.Topo{
			Switches: 3,
			Links:    []api.Link{link(1, 1, 2, 1), link(2, 2, 3, 1), link(3, 2, 1, 2)},
			Hosts:    []api.Host{host("cy", 3, 4), host("ann", 1, 4), host("bob", 2, 4)},
		},
		Tables: []api.Table{tab("10 **** " + first), tab("10 **** " + second), tab("10 **** " + third)},
	}
}

// turn lets a switch of such a ring do something else with all headers.
func turn(a int, old, young string) api.Round {
	return api.Round{take(a, "10 **** "+old), add(a, "10 **** "+young)}
}

// detour has ann's packets go to cy over 2, and in the other net at once, where 2 has bob's for itself.
func detour() (api.Net, api.Net) {
	return even("out 1", "out 2", "out 4"), even("out 2", "out 4", "out 4")
}

// judged has two nets of five switches, of which all but the judge differ. What ann sends goes along these four,
// rising, each of which lays a bit of its own into it, 0 at first and 1 then, and comes to the judge at last: it lets
// it on to bob unless just those switches that it was told are bad have laid a 1. So ann reaches bob unless these
// have changed and the others have not.
func judged(judge int, bad ...[]int) (api.Net, api.Net) {
	return inRow(judge, sieve(others(judge), bad), sieve(others(judge), bad))
}

// judgedByAll is such a pair in which the judge differs, too: sets with it in them are bad once it has changed.
func judgedByAll(judge int, bad ...[]int) (api.Net, api.Net) {
	var old, young [][]int
	for _, l := range bad {
		if slices.Contains(l, judge) {
			young = append(young, l)
		} else {
			old = append(old, l)
		}
	}
	// A rule that counts for no header lets the tables differ, whichever are bad.
	return inRow(judge, sieve(others(judge), old), append(tab("1 **** drop"), sieve(others(judge), young)...))
}

// inRow has two nets in which four switches lay their bits, and the judge has these tables.
func inRow(judge int, old, young api.Table) (api.Net, api.Net) {
	row := others(judge)
	x := api.Topo{Switches: 5, Hosts: []api.Host{host("ann", row[0], 4), host("bob", judge, 4)}}
	a, b := make([]api.Table, 5), make([]api.Table, 5)
	for i, s := range row {
		x.Links = append(x.Links, link(s, 2, append(row, judge)[i+1], 1))
		a[s-1] = api.Table{{Prio: 10, Out: 2, Set: 1 << i}}
		b[s-1] = api.Table{{Prio: 10, Out: 2, Set: 1 << i, Value: 1 << i}}
	}
	a[judge-1], b[judge-1] = old, young
	return api.Net{Topo: x, Tables: a}, api.Net{Topo: x, Tables: b}
}

// others are the four switches that are not that one.
func others(judge int) []int {
	return slices.DeleteFunc([]int{1, 2, 3, 4, 5}, func(s int) bool { return s == judge })
}

// sieve has what the judge does: it names those that are bad, or those that are not, where these are fewer.
func sieve(row []int, bad [][]int) api.Table {
	var marked [2][]int
	for n := range 16 {
		is := slices.ContainsFunc(bad, func(l []int) bool {
			for i, s := range row {
				if slices.Contains(l, s) != (n>>i&1 == 1) {
					return false
				}
			}
			return true
		})
		if is {
			marked[1] = append(marked[1], n)
		} else {
			marked[0] = append(marked[0], n)
		}
	}
	common, rare := tab("10 **** out 4")[0], tab("20 **** drop")[0]
	named := marked[1]
	if len(named) > 8 {
		common, rare = tab("10 **** drop")[0], tab("20 **** out 4")[0]
		named = marked[0]
	}
	t := api.Table{common}
	for _, n := range named {
		rare.Cube = api.Cube{Mask: 15, Bits: n}
		t = append(t, rare)
	}
	return t
}

// opsOf has by hand all Ops of a switch by which it comes from one net to the other one.
func opsOf(a, b api.Net, s int) api.Round {
	var out api.Round
	for _, r := range a.Tables[s-1] {
		if !slices.Contains(b.Tables[s-1], r) {
			out = append(out, api.Op{Switch: s, Rule: r})
		}
	}
	for _, r := range b.Tables[s-1] {
		if !slices.Contains(a.Tables[s-1], r) {
			out = append(out, api.Op{Switch: s, Add: true, Rule: r})
		}
	}
	return out
}

// inSets has Rounds with all Ops of these switches.
func inSets(a, b api.Net, sets ...[]int) []api.Round {
	var out []api.Round
	for _, l := range sets {
		var r api.Round
		for _, s := range l {
			r = append(r, opsOf(a, b, s)...)
		}
		out = append(out, r)
	}
	return out
}

func sameRounds(a, b []api.Round) bool {
	return slices.EqualFunc(a, b, func(x, y api.Round) bool { return slices.Equal(x, y) })
}

// planner is Plan, or Least.
type planner func(a, b api.Net, w []api.Wish) ([]api.Round, error)

// comesOut fails unless just these Rounds come out, which are right then, and that is told.
func comesOut(t *testing.T, name string, call planner, a, b api.Net, w []api.Wish, want []api.Round, fault api.Errno) {
	t.Helper()
	if got, err := call(a, b, w); !sameRounds(got, want) || plain.Told(err) != fault {
		t.Errorf("%s(%v, %v, %v):\n%v, %v, want\n%v, %v", name, a, b, w, got, err, want, fault)
	}
	if fault == api.OK {
		verifyIs(t, a, b, w, want, len(want), api.OK)
	}
}

func planIs(t *testing.T, a, b api.Net, w []api.Wish, want []api.Round, fault api.Errno) {
	t.Helper()
	comesOut(t, "Plan", Plan, a, b, w, want, fault)
}

func leastAre(t *testing.T, a, b api.Net, w []api.Wish, want []api.Round, fault api.Errno) {
	t.Helper()
	comesOut(t, "Least", Least, a, b, w, want, fault)
}

// bothAre fails unless both answer that.
func bothAre(t *testing.T, a, b api.Net, w []api.Wish, want []api.Round, fault api.Errno) {
	t.Helper()
	planIs(t, a, b, w, want, fault)
	leastAre(t, a, b, w, want, fault)
}

// verifyIs fails unless so many Rounds are told to be right, and that is told.
func verifyIs(t *testing.T, a, b api.Net, w []api.Wish, l []api.Round, want int, fault api.Errno) {
	t.Helper()
	if got, err := Verify(a, b, w, l); got != want || plain.Told(err) != fault {
		t.Errorf("Verify(%v, %v, %v, %v): %d, %v, want %d, %v", a, b, w, l, got, err, want, fault)
	}
}

// TestNothingIsToBeDone: of nets that are the same, also where their rules stand in another order.
func TestNothingIsToBeDone(t *testing.T) {
	x, _ := detour()
	y, z := x, x
	y.Tables = []api.Table{tab("10 **** out 1", "20 1*** out 2", "5 *1** drop"), tab("10 **** out 2"), tab("10 **** out 4")}
	z.Tables = []api.Table{tab("5 *1** drop", "10 **** out 1", "20 1*** out 2"), tab("10 **** out 2"), tab("10 **** out 4")}
	for _, w := range [][]api.Wish{nil, {}, {reach("ann", "cy"), loops()}} {
		bothAre(t, x, x, w, nil, api.OK)
		bothAre(t, y, z, w, nil, api.OK)
		bothAre(t, z, y, w, nil, api.OK)
	}
	for n := 1; n <= 6; n++ {
		bare := api.Net{Topo: api.Topo{Switches: n}, Tables: make([]api.Table, n)}
		bothAre(t, bare, bare, wishes(loops()), nil, api.OK)
	}
}

// TestAllInOneRound: where no wish forbids it, and of any switches.
func TestAllInOneRound(t *testing.T) {
	a, b := detour()
	for _, w := range [][]api.Wish{nil, {}, {loops()}, {apart("cy", "ann"), way("ann", "cy", 3), reach("cy", "cy")}} {
		bothAre(t, a, b, w, rounds(append(turn(1, "out 1", "out 2"), turn(2, "out 2", "out 4")...)), api.OK)
		bothAre(t, b, a, w, rounds(append(turn(1, "out 2", "out 1"), turn(2, "out 4", "out 2")...)), api.OK)
	}
	for n := 1; n <= 6; n++ {
		for which := range 1 << n {
			x := api.Net{Topo: api.Topo{Switches: n}, Tables: make([]api.Table, n)}
			y := api.Net{Topo: x.Topo, Tables: make([]api.Table, n)}
			var one api.Round
			for s := 1; s <= n; s++ {
				if which>>(s-1)&1 == 1 {
					y.Tables[s-1] = tab("10 **** out 1")
					one = append(one, add(s, "10 **** out 1"))
				}
			}
			if which > 0 {
				bothAre(t, x, y, wishes(loops()), rounds(one), api.OK)
			}
		}
	}
}

// TestAWishMakesAnOrder: of each kind, and the other way round on the way back.
func TestAWishMakesAnOrder(t *testing.T) {
	over, straight := detour()
	toBob, toAnn := even("out 1", "out 4", "out 4"), even("out 4", "out 1", "out 4")
	viaTwo, elsewhere := even("out 1", "out 2", "out 4"), even("out 2", "out 2", "out 1")
	for _, c := range []struct {
		a, b api.Net
		w    api.Wish
		sets [][]int
	}{
		{over, straight, reach("ann", "cy"), [][]int{{1}, {2}}},
		{straight, over, reach("ann", "cy"), [][]int{{2}, {1}}},
		{over, straight, apart("ann", "bob"), [][]int{{1}, {2}}},
		{straight, over, apart("ann", "bob"), [][]int{{2}, {1}}},
		{toBob, toAnn, loops(), [][]int{{1}, {2}}},
		{toAnn, toBob, loops(), [][]int{{2}, {1}}},
		{viaTwo, elsewhere, way("ann", "cy", 2), [][]int{{3}, {1}}},
		{elsewhere, viaTwo, way("ann", "cy", 2), [][]int{{1}, {3}}},
	} {
		bothAre(t, c.a, c.b, wishes(c.w), inSets(c.a, c.b, c.sets...), api.OK)
		// One wish that makes it is enough, wherever it stands.
		if c.w.What != api.Loops {
			bothAre(t, c.a, c.b, wishes(way("cy", "bob", 1), c.w, way("bob", "ann", 2)), inSets(c.a, c.b, c.sets...), api.OK)
		}
	}
}

// TestEachThatIsLeftIsTaken: rising, into a Round that is safe with it; behind it the next one begins again at the least.
func TestEachThatIsLeftIsTaken(t *testing.T) {
	w := wishes(reach("ann", "bob"))
	for _, c := range []struct {
		bad  [][]int // of the switches 1 to 4
		sets [][]int
	}{
		{nil, [][]int{{1, 2, 3, 4}}},
		{[][]int{{1}}, [][]int{{2, 3, 4}, {1}}},
		{[][]int{{2}}, [][]int{{1, 3, 4}, {2}}},
		{[][]int{{4}}, [][]int{{1, 2, 3}, {4}}},
		{[][]int{{1}, {3}}, [][]int{{2, 4}, {1, 3}}},
		{[][]int{{1, 2}}, [][]int{{1, 3, 4}, {2}}},
		{[][]int{{3, 4}}, [][]int{{1, 2, 3}, {4}}},
		{[][]int{{1, 2}, {3, 4}}, [][]int{{1, 3}, {2, 4}}},
		{[][]int{{1, 2, 3}}, [][]int{{1, 2, 4}, {3}}},
		{[][]int{{1}, {2}, {3}}, [][]int{{4}, {1, 2, 3}}},
		{[][]int{{1}, {2}, {3}, {1, 4}, {2, 4}}, [][]int{{4}, {3}, {1, 2}}},
		{[][]int{{1}, {2}, {3}, {1, 4}, {2, 4}, {1, 3, 4}}, [][]int{{4}, {3}, {2}, {1}}},
		{[][]int{{2}, {3}, {4}, {1, 3}, {1, 4}, {1, 2, 4}}, [][]int{{1}, {2}, {3}, {4}}},
	} {
		a, b := judged(5, c.bad...)
		bothAre(t, a, b, w, inSets(a, b, c.sets...), api.OK)
		// Without the wish nothing forbids it.
		bothAre(t, a, b, nil, inSets(a, b, []int{1, 2, 3, 4}), api.OK)
	}
}

// TestSwitchesThatDoNotDiffer: they are in no Round, whichever they are.
func TestSwitchesThatDoNotDiffer(t *testing.T) {
	for judge := 1; judge <= 5; judge++ {
		row := others(judge)
		a, b := judged(judge, row[:1], row[2:3])
		bothAre(t, a, b, wishes(reach("ann", "bob")), inSets(a, b, []int{row[1], row[3]}, []int{row[0], row[2]}), api.OK)
		// Two of the four do not differ, either.
		b.Tables[row[1]-1], b.Tables[row[2]-1] = a.Tables[row[1]-1], a.Tables[row[2]-1]
		bothAre(t, a, b, wishes(reach("ann", "bob")), inSets(a, b, []int{row[3]}, []int{row[0]}), api.OK)
	}
}

// TestAllOpsOfASwitchTogether: in Diff's order, switch by switch, also if a part of them could have been done ahead.
func TestAllOpsOfASwitchTogether(t *testing.T) {
	a, b := detour()
	a.Tables[0] = tab("10 **** out 1", "30 1*** out 1", "20 *1** out 1")
	a.Tables[1] = tab("40 1*** out 2", "10 **** out 2")
	b.Tables[0] = tab("50 0*** out 2", "20 *1** out 1 set *0**", "10 **** out 2")
	b.Tables[1] = tab("10 **** out 4", "40 1*** out 2", "9 **** drop")
	one := api.Round{take(1, "10 **** out 1"), take(1, "30 1*** out 1"), take(1, "20 *1** out 1"),
		add(1, "50 0*** out 2"), add(1, "20 *1** out 1 set *0**"), add(1, "10 **** out 2")}
	two := api.Round{take(2, "10 **** out 2"), add(2, "10 **** out 4"), add(2, "9 **** drop")}
	bothAre(t, a, b, nil, rounds(slices.Concat(one, two)), api.OK)
	// What is 1*** goes on over 2 as it did: only the others need 1 to be ahead, but 2 waits with all its Ops.
	a.Tables[1] = tab("10 **** out 2")
	b.Tables[1] = tab("40 1*** out 2", "10 **** out 4")
	b.Tables[0] = tab("50 0*** out 2", "10 **** out 1")
	one = api.Round{take(1, "30 1*** out 1"), take(1, "20 *1** out 1"), add(1, "50 0*** out 2")}
	two = api.Round{take(2, "10 **** out 2"), add(2, "40 1*** out 2"), add(2, "10 **** out 4")}
	bothAre(t, a, b, wishes(reach("ann", "cy")), rounds(one, two), api.OK)
}

// TestAsManyOpsAsMayBe: six switches, each of which has all its rules exchanged.
func TestAsManyOpsAsMayBe(t *testing.T) {
	a, b := api.Net{Topo: api.Topo{Switches: 6}}, api.Net{Topo: api.Topo{Switches: 6}}
	for range 6 {
		var x, y api.Table
		for i := range 12 {
			x, y = append(x, api.Rule{Prio: i, Out: 1}), append(y, api.Rule{Prio: i, Out: 2})
		}
		a.Tables, b.Tables = append(a.Tables, x), append(b.Tables, y)
	}
	want := inSets(a, b, []int{1, 2, 3, 4, 5, 6})
	if len(want[0]) != 144 {
		t.Fatalf("%d Ops", len(want[0]))
	}
	bothAre(t, a, b, wishes(loops()), want, api.OK)
}

// TestAsManyRoundsAsMayBe: six switches in a row send all to the one end, and then to the other one: who turns ahead of
// its neighbour makes a loop with it.
func TestAsManyRoundsAsMayBe(t *testing.T) {
	x := api.Topo{Switches: 6}
	right, left := make([]api.Table, 6), make([]api.Table, 6)
	for i := range 6 {
		x.Hosts = append(x.Hosts, host(string(rune('a'+i)), i+1, 4))
		right[i], left[i] = tab("10 **** out 2"), tab("10 **** out 1")
		if i < 5 {
			x.Links = append(x.Links, link(i+1, 2, i+2, 1))
		}
	}
	right[5], left[0] = tab("10 **** out 4"), tab("10 **** out 4")
	a, b := api.Net{Topo: x, Tables: right}, api.Net{Topo: x, Tables: left}
	bothAre(t, a, b, wishes(loops()), inSets(a, b, []int{1}, []int{2}, []int{3}, []int{4}, []int{5}, []int{6}), api.OK)
	bothAre(t, b, a, wishes(loops()), inSets(b, a, []int{6}, []int{5}, []int{4}, []int{3}, []int{2}, []int{1}), api.OK)
	verifyIs(t, a, b, wishes(loops()), inSets(a, b, []int{1}, []int{2}, []int{3, 4}, []int{5}, []int{6}), 2, api.ErrBroken)
}

// TestNotInTheFirstNet: a wish that does not hold there lets nothing be planned, though it would hold behind it.
func TestNotInTheFirstNet(t *testing.T) {
	a, b := detour()
	for _, w := range [][]api.Wish{{reach("ann", "bob")}, {apart("ann", "cy")}, {reach("bob", "bob")}, {loops(), apart("bob", "cy")}} {
		bothAre(t, a, b, w, nil, api.ErrBroken)
		bothAre(t, a, a, w, nil, api.ErrBroken)
	}
	round, none := even("out 1", "out 2", "out 2"), even("out 4", "out 4", "out 4")
	bothAre(t, round, none, wishes(loops()), nil, api.ErrBroken)
	bothAre(t, round, round, wishes(loops()), nil, api.ErrBroken)
	a, b = judged(5, nil)
	bothAre(t, a, b, wishes(reach("ann", "bob")), nil, api.ErrBroken)
}

// TestNotInTheSecondNet: a wish that does not hold there lets nothing be planned, though all could be done but the last.
func TestNotInTheSecondNet(t *testing.T) {
	a, b := detour()
	bothAre(t, a, b, wishes(reach("bob", "cy")), nil, api.ErrBroken)
	bothAre(t, b, a, wishes(apart("bob", "cy")), nil, api.ErrBroken)
	bothAre(t, even("out 4", "out 4", "out 4"), even("out 1", "out 2", "out 2"), wishes(loops()), nil, api.ErrBroken)
	a, b = judged(5, []int{1, 2, 3, 4})
	bothAre(t, a, b, wishes(reach("ann", "bob")), nil, api.ErrBroken)
	verifyIs(t, a, b, wishes(reach("ann", "bob")), inSets(a, b, []int{1}, []int{2}, []int{3}, []int{4}), 3, api.ErrBroken)
}

// TestARoundWouldBeEmpty: the first one, or a later one, though each wish holds ahead of all and behind all.
func TestARoundWouldBeEmpty(t *testing.T) {
	w := wishes(reach("ann", "bob"))
	for _, bad := range [][][]int{
		{{1}, {2}, {3}, {4}},
		{{1, 2, 3}, {1, 2, 4}, {1, 3, 4}, {2, 3, 4}},
		{{1}, {4}, {2, 3}, {2, 1}, {2, 4}, {3, 1}, {3, 4}},
	} {
		a, b := judged(5, bad...)
		bothAre(t, a, b, w, nil, api.ErrBroken)
	}
}

// revisited has what ann sends come to switch 1 twice, and in the other net once: what is ahead of its second visit while 1
// changes is dropped.
func revisited() (api.Net, api.Net) {
	x := api.Topo{Switches: 2, Links: []api.Link{link(2, 1, 1, 3), link(1, 1, 1, 2)}, Hosts: []api.Host{host("ann", 2, 4), host("bob", 1, 4)}}
	ahead := tab("10 **** out 1 set 0000")
	return api.Net{Topo: x, Tables: []api.Table{tab("10 0000 out 1 set ***1", "10 0001 out 4"), ahead}},
		api.Net{Topo: x, Tables: []api.Table{tab("10 0000 out 4"), ahead}}
}

// TestOneSwitchMetTwice: a wish that holds ahead and behind is broken by who meets both tables of it.
func TestOneSwitchMetTwice(t *testing.T) {
	a, b := revisited()
	w := wishes(reach("ann", "bob"))
	bothAre(t, a, b, w, nil, api.ErrBroken)
	bothAre(t, b, a, w, inSets(b, a, []int{1}), api.OK)
	verifyIs(t, a, b, w, inSets(a, b, []int{1}), 0, api.ErrBroken)
	// Not all Ops at once, and it can be done: the second visit needs its rule to the end.
	verifyIs(t, a, b, w, rounds(api.Round{take(1, "10 0000 out 1 set ***1"), add(1, "10 0000 out 4")}, api.Round{take(1, "10 0001 out 4")}), 2, api.OK)
}

// crossed has what ann sends come to 1, 2, 1, 2 and so to bob. Each of both lays a bit into it the first time once it has
// changed (1: **1*, 2: *1**), and 2 drops at last what both have changed under: what 1 saw to be so has 1***.
func crossed() (api.Net, api.Net) {
	x := api.Topo{Switches: 3, Links: []api.Link{link(3, 1, 1, 1), link(1, 2, 2, 2), link(2, 3, 1, 3)},
		Hosts: []api.Host{host("ann", 3, 4), host("bob", 2, 4)}}
	ahead := tab("10 **** out 1 set 0000")
	a := []api.Table{tab("10 **** out 2"), tab("10 ***0 out 3 set ***1", "10 ***1 out 4"), ahead}
	b := []api.Table{tab("10 ***0 out 2 set **1*", "10 **01 out 2 set 1***", "10 **11 out 2"),
		tab("10 ***0 out 3 set *1*1", "10 ***1 out 4", "20 10*1 drop"), ahead}
	return api.Net{Topo: x, Tables: a}, api.Net{Topo: x, Tables: b}
}

// TestOneAfterTheOther: two that may each be ahead, but not in one Round, though the wish holds whichever have changed.
func TestOneAfterTheOther(t *testing.T) {
	a, b := crossed()
	w := wishes(reach("ann", "bob"))
	bothAre(t, a, b, w, inSets(a, b, []int{1}, []int{2}), api.OK)
	verifyIs(t, a, b, w, inSets(a, b, []int{2}, []int{1}), 2, api.OK)
	verifyIs(t, a, b, w, inSets(a, b, []int{1, 2}), 0, api.ErrBroken)
	bothAre(t, a, b, wishes(apart("ann", "ann")), inSets(a, b, []int{1, 2}), api.OK)
}
