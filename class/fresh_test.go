package class

import (
	"reflect"
	"slices"
	"testing"

	"railpoint/api"
)

// roomy has a net all of whose lists have things behind their length, which would be faults if they counted.
func roomy() api.Net {
	bad := api.Rule{Prio: -7, Out: 77}
	var n api.Net
	n.Topo.Switches = 3
	n.Topo.Links = append(world().Topo.Links, link(9, 9, 9, 9))[:2]
	n.Topo.Hosts = append(world().Topo.Hosts, host("Wrong", 9, 9))[:2]
	for _, t := range world().Tables {
		n.Tables = append(n.Tables, append(t, bad, bad)[:len(t)])
	}
	n.Tables = append(n.Tables, api.Table{bad})[:3]
	return n
}

// full has all of a net, what lies behind the lengths of its lists as well.
func full(n api.Net) api.Net {
	x := api.Net{Topo: n.Topo}
	x.Topo.Links = slices.Clone(n.Topo.Links[:cap(n.Topo.Links)])
	x.Topo.Hosts = slices.Clone(n.Topo.Hosts[:cap(n.Topo.Hosts)])
	for _, t := range n.Tables[:cap(n.Tables)] {
		x.Tables = append(x.Tables, slices.Clone(t[:cap(t)]))
	}
	return x
}

func TestNetsAreAsTheyWere(t *testing.T) {
	n := roomy()
	before := full(n)
	wantAll, _ := All(world())
	allIs(t, n, wantAll, api.OK)
	for header := -1; header <= 16; header++ {
		want, err := Path(world(), header)
		got, bad := Path(n, header)
		if !reflect.DeepEqual(got, want) || err != bad {
			t.Errorf("Path of %d: %v, %v, want %v, %v", header, got, bad, want, err)
		}
	}
	for i, x := range n.Tables {
		want, _ := Of(world().Tables[i])
		ofIs(t, x, want, api.OK)
	}
	if after := full(n); !reflect.DeepEqual(after, before) {
		t.Errorf("the net is now %v, was %v", after, before)
	}
}

func TestClassesAreAsTheyWere(t *testing.T) {
	room := [][]int{{9, 4, 6, 1}, {}, {3, 8, 0}, {7, -7}}
	room[0], room[2] = room[0][:3], room[2][:2]
	l := room[:3]
	repIs(t, l, 9, 4, api.OK)
	repIs(t, l, 8, 3, api.OK)
	// What lies behind a length is not there.
	for _, header := range []int{1, 0, 7, -7} {
		repIs(t, l, header, 0, api.ErrNone)
	}
	if !reflect.DeepEqual(room, [][]int{{9, 4, 6}, {}, {3, 8}, {7, -7}}) {
		t.Errorf("the classes are now %v", room)
	}
	if room[0][:4][3] != 1 || room[2][:3][2] != 0 {
		t.Errorf("behind the classes: %d, %d", room[0][:4][3], room[2][:3][2])
	}
}

// spoil writes over a list, and over what lies behind its length.
func spoil(l []int) {
	for i := range l[:cap(l)] {
		l[:cap(l)][i] = -99
	}
}

// TestClassesShareNoMemory: whatever is done to one class of an answer is not seen in the others.
func TestClassesShareNoMemory(t *testing.T) {
	for _, ask := range []func() [][]int{
		func() [][]int { l, _ := Of(dozen(8)); return l },
		func() [][]int { l, _ := Of(tab("10 **** out 1", "20 *1*0 out 1", "15 10** out 1")); return l },
		func() [][]int { l, _ := All(world()); return l },
	} {
		for i := range ask() {
			l, want := ask(), ask()
			spoil(l[i])
			for j := range l {
				if j != i && !slices.Equal(l[j], want[j]) {
					t.Errorf("behind a change of class %d class %d is %v, was %v", i, j, l[j], want[j])
				}
			}
		}
	}
}

// TestAnswersAreFresh: what is done to one answer is not seen in the next one.
func TestAnswersAreFresh(t *testing.T) {
	n, table := world(), dozen(4)
	all, _ := All(n)
	of, _ := Of(table)
	path, _ := Path(n, 14)
	for _, l := range slices.Concat(all, of, [][]int{path}) {
		spoil(l)
	}
	clear(all)
	clear(of)
	TestHowThingsAreJoined(t)
	TestTwelveRules(t)
	pathIs(t, n, 14, []int{3, 0, 2}, api.OK)
	if !reflect.DeepEqual(n, world()) || !reflect.DeepEqual(table, dozen(4)) {
		t.Errorf("the net is now %v, the table %v", n, table)
	}
}
