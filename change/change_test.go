package change

import (
	"slices"
	"testing"

	"railpoint/api"
	"railpoint/plain"
	"railpoint/rule"
)

func spot(a, port int) api.Spot { return api.Spot{Switch: a, Port: port} }

func link(a, ap, b, bp int) api.Link { return api.Link{A: spot(a, ap), B: spot(b, bp)} }

func host(name string, a, port int) api.Host { return api.Host{Name: name, At: spot(a, port)} }

// parsed is the rule that is written out.
func parsed(s string) api.Rule {
	r, err := rule.Parse(s)
	if err != nil {
		panic(s)
	}
	return r
}

// tab is the table of rules that are written out.
func tab(texts ...string) api.Table {
	var t api.Table
	for _, s := range texts {
		t = append(t, parsed(s))
	}
	return t
}

func add(a int, s string) api.Op { return api.Op{Switch: a, Add: true, Rule: parsed(s)} }

func take(a int, s string) api.Op { return api.Op{Switch: a, Rule: parsed(s)} }

func ops(l ...api.Op) []api.Op { return l }

// world is a right net: the line 1 - 2 - 3 with two hosts, and a rule that switches 1 and 3 both have.
func world() api.Net {
	return api.Net{
		Topo: api.Topo{
			Switches: 3,
			Links:    []api.Link{link(1, 1, 2, 1), link(3, 1, 2, 2)},
			Hosts:    []api.Host{host("ann", 1, 4), host("cy", 3, 4)},
		},
		Tables: []api.Table{
			tab("10 **** out 1", "20 *0** out 4", "30 1111 drop"),
			nil,
			tab("10 0*** out 4 set ***0", "10 **** out 1"),
		},
	}
}

// with is world with other tables at some switches.
func with(tables map[int]api.Table) api.Net {
	n := world()
	for a, t := range tables {
		n.Tables[a-1] = t
	}
	return n
}

// bare is a net of switches that nothing is joined to.
func bare(tables ...api.Table) api.Net {
	return api.Net{Topo: api.Topo{Switches: len(tables)}, Tables: tables}
}

// dozen has as many rules as may be.
func dozen() api.Table {
	var t api.Table
	for i := range 12 {
		t = append(t, api.Rule{Prio: i, Out: i%4 + 1})
	}
	return t
}

// equal tells whether two nets are written alike, an empty list and nil being the same.
func equal(a, b api.Net) bool {
	return a.Topo.Switches == b.Topo.Switches && slices.Equal(a.Topo.Links, b.Topo.Links) &&
		slices.Equal(a.Topo.Hosts, b.Topo.Hosts) &&
		slices.EqualFunc(a.Tables, b.Tables, func(x, y api.Table) bool { return slices.Equal(x, y) })
}

// applyIs fails unless Apply answers just that, and Check its error.
func applyIs(t *testing.T, n api.Net, l []api.Op, want api.Net, fault api.Errno) {
	t.Helper()
	if got, err := Apply(n, l); !equal(got, want) || plain.Told(err) != fault {
		t.Errorf("Apply(%v, %v): %v, %v, want %v, %v", n, l, got, err, want, fault)
	}
	if got := plain.Told(Check(n, l)); got != fault {
		t.Errorf("Check(%v, %v): %v, want %v", n, l, got, fault)
	}
}

func sameIs(t *testing.T, a, b api.Net, want bool, fault api.Errno) {
	t.Helper()
	if got, err := Same(a, b); got != want || plain.Told(err) != fault {
		t.Errorf("Same(%v, %v): %v, %v, want %v, %v", a, b, got, err, want, fault)
	}
}

func diffIs(t *testing.T, a, b api.Net, want []api.Op, fault api.Errno) {
	t.Helper()
	if got, err := Diff(a, b); !slices.Equal(got, want) || plain.Told(err) != fault {
		t.Errorf("Diff(%v, %v): %v, %v, want %v, %v", a, b, got, err, want, fault)
	}
}

func turnIs(t *testing.T, l, want []api.Op) {
	t.Helper()
	if got := Turn(l); !slices.Equal(got, want) {
		t.Errorf("Turn(%v): %v, want %v", l, got, want)
	}
}

func TestApplyNoOps(t *testing.T) {
	for _, n := range []api.Net{world(), bare(nil), bare(dozen(), nil, tab("5 1*** drop")), bare(nil, nil, nil, nil, nil, dozen())} {
		applyIs(t, n, nil, n, api.OK)
		applyIs(t, n, []api.Op{}, n, api.OK)
	}
}

func TestApplyOneOp(t *testing.T) {
	// Added at the end, whatever its Prio, and at that switch alone.
	applyIs(t, world(), ops(add(1, "5 **** out 2")), with(map[int]api.Table{
		1: tab("10 **** out 1", "20 *0** out 4", "30 1111 drop", "5 **** out 2")}), api.OK)
	applyIs(t, world(), ops(add(2, "99 1*** out 1")), with(map[int]api.Table{2: tab("99 1*** out 1")}), api.OK)
	applyIs(t, world(), ops(add(3, "20 **** drop")), with(map[int]api.Table{
		3: tab("10 0*** out 4 set ***0", "10 **** out 1", "20 **** drop")}), api.OK)
	// Taken from any place, the others keep their order, and another switch keeps the same rule.
	applyIs(t, world(), ops(take(1, "10 **** out 1")), with(map[int]api.Table{1: tab("20 *0** out 4", "30 1111 drop")}), api.OK)
	applyIs(t, world(), ops(take(1, "20 *0** out 4")), with(map[int]api.Table{1: tab("10 **** out 1", "30 1111 drop")}), api.OK)
	applyIs(t, world(), ops(take(3, "10 **** out 1")), with(map[int]api.Table{3: tab("10 0*** out 4 set ***0")}), api.OK)
}

func TestApplySeveralOps(t *testing.T) {
	// All of one switch, which is empty between.
	applyIs(t, world(), ops(
		take(3, "10 **** out 1"), take(3, "10 0*** out 4 set ***0"), add(3, "10 **** out 2"), add(3, "9 **** out 1"),
	), with(map[int]api.Table{3: tab("10 **** out 2", "9 **** out 1")}), api.OK)
	// Of several switches, one of them twice, with others between.
	applyIs(t, world(), ops(
		add(2, "10 **** out 1"), take(1, "30 1111 drop"), add(3, "1 1*** drop"), take(1, "10 **** out 1"), add(2, "4 0000 drop"),
	), with(map[int]api.Table{
		1: tab("20 *0** out 4"),
		2: tab("10 **** out 1", "4 0000 drop"),
		3: tab("10 0*** out 4 set ***0", "10 **** out 1", "1 1*** drop"),
	}), api.OK)
	// Taken away and added again it stands at the end.
	applyIs(t, world(), ops(take(1, "10 **** out 1"), add(1, "10 **** out 1")), with(map[int]api.Table{
		1: tab("20 *0** out 4", "30 1111 drop", "10 **** out 1")}), api.OK)
}

// TestApplyAtEverySwitch: of nets of all sizes, the last switch as well.
func TestApplyAtEverySwitch(t *testing.T) {
	for n := 1; n <= 6; n++ {
		for a := 1; a <= n; a++ {
			want := make([]api.Table, n)
			want[a-1] = tab("7 1*0* out 4 set *11*")
			applyIs(t, bare(make([]api.Table, n)...), ops(add(a, "7 1*0* out 4 set *11*")), bare(want...), api.OK)
			applyIs(t, bare(want...), ops(take(a, "7 1*0* out 4 set *11*")), bare(make([]api.Table, n)...), api.OK)
		}
	}
}

func TestTurnByHand(t *testing.T) {
	turnIs(t, nil, nil)
	turnIs(t, []api.Op{}, nil)
	turnIs(t, ops(add(2, "10 **** out 1")), ops(take(2, "10 **** out 1")))
	turnIs(t, ops(take(2, "10 **** out 1")), ops(add(2, "10 **** out 1")))
	turnIs(t,
		ops(add(2, "10 **** out 1"), take(1, "20 0*** drop"), add(1, "20 0*** out 3 set ***1")),
		ops(take(1, "20 0*** out 3 set ***1"), add(1, "20 0*** drop"), take(2, "10 **** out 1")))
}

// TestTurnAsksNothing: Ops that no net could have, and more than may be applied, are turned as all others.
func TestTurnAsksNothing(t *testing.T) {
	ill := api.Rule{Prio: -5, Cube: api.Cube{Mask: 99, Bits: -99}, Out: 77, Set: -1, Value: 16}
	turnIs(t,
		ops(api.Op{Switch: -3, Rule: ill}, api.Op{Switch: 1 << 40, Add: true, Rule: ill}, api.Op{}),
		ops(api.Op{Add: true}, api.Op{Switch: 1 << 40, Rule: ill}, api.Op{Switch: -3, Add: true, Rule: ill}))
	var many, want []api.Op
	for i := range 5000 {
		many = append(many, api.Op{Switch: i, Add: i%3 == 0})
		want = append(want, api.Op{Switch: 4999 - i, Add: (4999-i)%3 != 0})
	}
	turnIs(t, many, want)
	turnIs(t, want, many)
}

// TestThereAndBack: behind Ops, and what Turn makes of them, a net has the same rules as before.
func TestThereAndBack(t *testing.T) {
	for _, l := range [][]api.Op{
		nil,
		ops(add(2, "10 **** out 1")),
		ops(take(1, "10 **** out 1")),
		// What comes has the Prio and Cube of what went: back it goes only if the last is taken back first.
		ops(take(1, "10 **** out 1"), add(1, "10 **** out 2"), take(1, "10 **** out 2"), add(1, "10 **** drop")),
		ops(take(3, "10 **** out 1"), add(2, "10 **** out 1"), take(1, "30 1111 drop"), add(3, "10 **** out 1")),
	} {
		there, err := Apply(world(), l)
		if err != nil {
			t.Fatalf("Apply of %v: %v", l, err)
		}
		back, err := Apply(there, Turn(l))
		if err != nil {
			t.Fatalf("Apply of Turn(%v): %v", l, err)
		}
		sameIs(t, back, world(), true, api.OK)
	}
	// A full table as well: what came goes ahead of what comes back.
	l := []api.Op{{Switch: 1, Rule: dozen()[3]}, add(1, "50 **** out 1")}
	there, _ := Apply(bare(dozen()), l)
	back, err := Apply(there, Turn(l))
	if err != nil {
		t.Fatalf("Apply of Turn(%v): %v", l, err)
	}
	sameIs(t, back, bare(dozen()), true, api.OK)
}

func TestDiffByHand(t *testing.T) {
	other := with(map[int]api.Table{
		1: tab("30 1111 out 2", "20 *0** out 4", "5 0000 drop"),
		2: tab("10 1*** out 1", "10 **** out 2"),
		3: tab("10 **** out 1"),
	})
	diffIs(t, world(), other, ops(
		take(1, "10 **** out 1"), take(1, "30 1111 drop"), add(1, "30 1111 out 2"), add(1, "5 0000 drop"),
		add(2, "10 1*** out 1"), add(2, "10 **** out 2"),
		take(3, "10 0*** out 4 set ***0"),
	), api.OK)
	diffIs(t, other, world(), ops(
		take(1, "30 1111 out 2"), take(1, "5 0000 drop"), add(1, "10 **** out 1"), add(1, "30 1111 drop"),
		take(2, "10 1*** out 1"), take(2, "10 **** out 2"),
		add(3, "10 0*** out 4 set ***0"),
	), api.OK)
	for _, pair := range [][2]api.Net{{world(), other}, {other, world()}} {
		l, _ := Diff(pair[0], pair[1])
		n, err := Apply(pair[0], l)
		if err != nil {
			t.Errorf("Apply of Diff: %v", err)
		}
		sameIs(t, n, pair[1], true, api.OK)
	}
}

// TestDiffOfFullTables: at each switch all goes and all comes, and that is no more than may be applied.
func TestDiffOfFullTables(t *testing.T) {
	a, b := bare(make([]api.Table, 6)...), bare(make([]api.Table, 6)...)
	var want []api.Op
	for i := range 6 {
		a.Tables[i], b.Tables[i] = dozen(), dozen()
		for j := range 12 {
			b.Tables[i][j].Out = (j+1)%4 + 1
		}
		for _, r := range a.Tables[i] {
			want = append(want, api.Op{Switch: i + 1, Rule: r})
		}
		for _, r := range b.Tables[i] {
			want = append(want, api.Op{Switch: i + 1, Add: true, Rule: r})
		}
	}
	diffIs(t, a, b, want, api.OK)
	applyIs(t, a, want, b, api.OK)
}

// TestNetsThatAreTheSame: a net and itself, and tables with the same rules in another order.
func TestNetsThatAreTheSame(t *testing.T) {
	empty := world()
	empty.Tables[1] = api.Table{}
	mixed := with(map[int]api.Table{
		1: tab("30 1111 drop", "10 **** out 1", "20 *0** out 4"),
		3: tab("10 **** out 1", "10 0*** out 4 set ***0"),
	})
	for _, b := range []api.Net{world(), empty, mixed} {
		sameIs(t, world(), b, true, api.OK)
		sameIs(t, b, world(), true, api.OK)
		diffIs(t, world(), b, nil, api.OK)
		diffIs(t, b, world(), nil, api.OK)
	}
	for _, n := range []api.Net{world(), bare(nil), bare(nil, dozen(), nil, nil, nil, dozen())} {
		sameIs(t, n, n, true, api.OK)
		diffIs(t, n, n, nil, api.OK)
	}
	// No Links and no Hosts: empty or nil.
	a, b := bare(nil), bare(nil)
	b.Topo.Links, b.Topo.Hosts = []api.Link{}, []api.Host{}
	sameIs(t, a, b, true, api.OK)
	diffIs(t, b, a, nil, api.OK)
}

// TestTablesThatDiffer: in one rule, at any switch, in any of its numbers, or in at which switch it is.
func TestTablesThatDiffer(t *testing.T) {
	for _, b := range []api.Net{
		with(map[int]api.Table{1: tab("10 **** out 1", "20 *0** out 4")}),
		with(map[int]api.Table{1: tab("11 **** out 1", "20 *0** out 4", "30 1111 drop")}),
		with(map[int]api.Table{1: tab("10 **** out 1", "20 *0** out 4", "30 1111 out 1")}),
		with(map[int]api.Table{1: tab("10 **** out 1", "20 *1** out 4", "30 1111 drop")}),
		with(map[int]api.Table{2: tab("10 **** out 1")}),
		with(map[int]api.Table{3: tab("10 0*** out 4 set ***1", "10 **** out 1")}),
		with(map[int]api.Table{3: tab("10 0*** out 4 set **0*", "10 **** out 1")}),
		with(map[int]api.Table{3: tab("10 0*** out 4 set ***0", "10 **** out 1", "0 **** drop")}),
		with(map[int]api.Table{2: world().Tables[2], 3: nil}),
		with(map[int]api.Table{1: world().Tables[2], 3: world().Tables[0]}),
	} {
		sameIs(t, world(), b, false, api.OK)
		sameIs(t, b, world(), false, api.OK)
	}
}
