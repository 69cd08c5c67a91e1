package change

import (
	"reflect"
	"slices"
	"strings"
	"testing"
	"unsafe"

	"railpoint/api"
)

// roomyOps has Ops with others behind their length, which would be faults if they counted.
func roomyOps(l []api.Op) []api.Op {
	return append(slices.Clip(slices.Clone(l)), api.Op{Switch: -9}, api.Op{Switch: 9, Add: true})[:len(l)]
}

// roomyNet has a net all of whose lists have things behind their length, which would be faults if they counted.
func roomyNet(n api.Net) api.Net {
	bad := api.Rule{Prio: -7, Out: 77}
	n.Topo.Links = append(slices.Clone(n.Topo.Links), link(9, 9, 9, 9))[:len(n.Topo.Links)]
	n.Topo.Hosts = append(slices.Clone(n.Topo.Hosts), host("Wrong", 9, 9))[:len(n.Topo.Hosts)]
	tables := make([]api.Table, 0, len(n.Tables)+1)
	for _, t := range n.Tables {
		tables = append(tables, append(slices.Clone(t), bad, bad)[:len(t)])
	}
	n.Tables = append(tables, api.Table{bad})[:len(n.Tables)]
	return n
}

// whole has all of a net, what lies behind the lengths of its lists as well.
func whole(n api.Net) api.Net {
	n.Topo.Links = slices.Clone(n.Topo.Links[:cap(n.Topo.Links)])
	n.Topo.Hosts = slices.Clone(n.Topo.Hosts[:cap(n.Topo.Hosts)])
	tables := make([]api.Table, 0, cap(n.Tables))
	for _, t := range n.Tables[:cap(n.Tables)] {
		tables = append(tables, slices.Clone(t[:cap(t)]))
	}
	n.Tables = tables
	return n
}

// spoil writes over a list, and over what lies behind its length.
func spoil[E any](l []E, with E) {
	for i := range l[:cap(l)] {
		l[:cap(l)][i] = with
	}
}

// spoilNet writes over all lists of a net, those that stand behind the length of its tables as well.
func spoilNet(n api.Net) {
	spoil(n.Topo.Links, link(-5, -5, -5, -5))
	spoil(n.Topo.Hosts, host("Spoilt", -5, -5))
	for _, t := range n.Tables[:cap(n.Tables)] {
		spoil(t, api.Rule{Prio: -5})
	}
	spoil(n.Tables, api.Table{{Prio: -5}})
}

// someLists has Ops of all kinds: none, those that can be done, and those that are wrong at the end.
func someLists() [][]api.Op {
	right := ops(take(1, "20 *0** out 4"), add(2, "10 **** out 1"), take(3, "10 **** out 1"), take(2, "10 **** out 1"),
		take(3, "10 0*** out 4 set ***0"), add(1, "20 *0** drop"))
	var out [][]api.Op
	for i := range len(right) + 1 {
		out = append(out, right[:i], append(slices.Clone(right[:i]), api.Op{Switch: 4}),
			append(slices.Clone(right[:i]), take(2, "99 **** drop")))
	}
	return append(out, manyOps(201))
}

// otherWorld has the topology of world, and a table of its own at each switch.
func otherWorld() api.Net {
	return with(map[int]api.Table{1: tab("10 **** out 2", "30 1111 drop"), 2: dozen(), 3: nil})
}

func TestWhatIsHandedInIsAsItWas(t *testing.T) {
	for _, l := range someLists() {
		a, b, given := roomyNet(world()), roomyNet(otherWorld()), roomyOps(l)
		wasA, wasB, wasGiven := whole(a), whole(b), slices.Clone(given[:cap(given)])
		want, fault := Apply(world(), l)
		got, err := Apply(a, given)
		if !equal(got, want) || err != fault || Check(a, given) != fault {
			t.Errorf("Apply of %v: %v, %v, want %v, %v", l, got, err, want, fault)
		}
		turnIs(t, given, Turn(l))
		sameIs(t, a, b, false, api.OK)
		sameIs(t, a, world(), true, api.OK)
		diff, _ := Diff(world(), otherWorld())
		diffIs(t, a, b, diff, api.OK)
		if !reflect.DeepEqual(whole(a), wasA) || !reflect.DeepEqual(whole(b), wasB) {
			t.Errorf("behind %v the nets are %v and %v, were %v and %v", l, whole(a), whole(b), wasA, wasB)
		}
		if !slices.Equal(given[:cap(given)], wasGiven) {
			t.Errorf("the Ops are now %v, were %v", given[:cap(given)], wasGiven)
		}
	}
}

// TestANetThatComesOutIsFresh: what is done to it is not seen in what was handed in, nor the other way round.
func TestANetThatComesOutIsFresh(t *testing.T) {
	for _, l := range someLists() {
		n, given := roomyNet(world()), roomyOps(l)
		was := whole(n)
		want, _ := Apply(world(), l)
		got, _ := Apply(n, given)
		spoilNet(got)
		if !reflect.DeepEqual(whole(n), was) {
			t.Errorf("spoiling the net behind %v made %v of %v", l, whole(n), was)
		}
		got, _ = Apply(n, given)
		spoilNet(n)
		spoil(given, api.Op{Switch: -5})
		if !equal(got, want) {
			t.Errorf("the net behind %v hangs on what was handed in: %v, want %v", l, got, want)
		}
	}
}

// TestTablesThatComeOutShareNoMemory: not even if those that were handed in do.
func TestTablesThatComeOutShareNoMemory(t *testing.T) {
	one := dozen()[:4:8]
	n := bare(one, one, one[:2], one[1:3])
	for _, l := range [][]api.Op{nil, ops(add(1, "50 **** drop")), ops(add(2, "50 **** drop"), add(4, "51 **** drop"))} {
		want, _ := Apply(n, l)
		for i := range n.Tables {
			got, _ := Apply(n, l)
			spoil(got.Tables[i], api.Rule{Prio: -5})
			for j := range got.Tables {
				if j != i && !slices.Equal(got.Tables[j], want.Tables[j]) {
					t.Errorf("behind %v tables %d and %d share memory", l, i, j)
				}
			}
		}
	}
}

// TestNamesThatComeOutAreFresh: the text of which a name is a piece is not held on to.
func TestNamesThatComeOutAreFresh(t *testing.T) {
	n := world()
	n.Topo.Hosts[0].Name = strings.Repeat("ann", 1000)[3:6]
	got, err := Apply(n, nil)
	if err != nil || !equal(got, world()) {
		t.Fatalf("Apply(%v, nil): %v, %v", n, got, err)
	}
	if unsafe.StringData(got.Topo.Hosts[0].Name) == unsafe.StringData(n.Topo.Hosts[0].Name) {
		t.Error("the name that comes out is the one that was handed in")
	}
}

// lieTogether tells whether two lists begin at one place.
func lieTogether[E any](a, b []E) bool {
	return unsafe.SliceData(a) != nil && unsafe.SliceData(a) == unsafe.SliceData(b)
}

// TestEmptyListsThatComeOutAreFresh: they hold on to nothing of the room of those that were handed in.
func TestEmptyListsThatComeOutAreFresh(t *testing.T) {
	n := bare(dozen()[:0])
	n.Topo.Links = []api.Link{link(1, 1, 1, 2)}[:0]
	n.Topo.Hosts = []api.Host{host("a", 1, 1)}[:0]
	got, err := Apply(n, nil)
	if err != nil || !equal(got, n) {
		t.Errorf("Apply(%v, nil): %v, %v", n, got, err)
	}
	if lieTogether(got.Topo.Links, n.Topo.Links) || lieTogether(got.Topo.Hosts, n.Topo.Hosts) ||
		lieTogether(got.Tables[0], n.Tables[0]) {
		t.Error("an empty list that comes out lies where the one lay that was handed in")
	}
	if l := manyOps(2)[:0]; lieTogether(Turn(l), l) {
		t.Error("what Turn makes of no Ops lies where they lay")
	}
}

// TestOpsThatComeOutAreFresh: of Turn and of Diff.
func TestOpsThatComeOutAreFresh(t *testing.T) {
	for _, l := range someLists() {
		given := roomyOps(l)
		was, want := slices.Clone(given[:cap(given)]), Turn(l)
		spoil(Turn(given), api.Op{Switch: -5})
		if !slices.Equal(given[:cap(given)], was) {
			t.Errorf("spoiling Turn of %v made %v of it", was, given[:cap(given)])
		}
		got := Turn(given)
		spoil(given, api.Op{Switch: -5})
		if !slices.Equal(got, want) {
			t.Errorf("Turn of %v hangs on it: %v", l, got)
		}
	}
	a, b := world(), otherWorld()
	want, _ := Diff(world(), otherWorld())
	got, _ := Diff(a, b)
	spoil(got, api.Op{Switch: -5})
	if !equal(a, world()) || !equal(b, otherWorld()) {
		t.Errorf("spoiling Diff made %v and %v of the nets", a, b)
	}
	got, _ = Diff(a, b)
	spoilNet(a)
	spoilNet(b)
	if !slices.Equal(got, want) {
		t.Errorf("Diff hangs on the nets: %v, want %v", got, want)
	}
}

// TestAnswersHangOnArgumentsAlone: what was asked before is not to be told from what is answered now.
func TestAnswersHangOnArgumentsAlone(t *testing.T) {
	for range 3 {
		TestApplySeveralOps(t)
		TestSeveralWrongOps(t)
		TestTurnByHand(t)
		TestDiffByHand(t)
		TestToposThatDiffer(t)
	}
}
