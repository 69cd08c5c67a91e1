package wish

import (
	"reflect"
	"slices"
	"strings"
	"testing"
	"unsafe"

	"railpoint/api"
)

// roomy has a net all of whose lists have things behind their length, which would be faults if they counted.
func roomy() api.Net {
	bad := api.Rule{Prio: -7, Out: 77}
	var n api.Net
	n.Topo.Switches = 3
	n.Topo.Links = append(ring().Links, link(9, 9, 9, 9))[:3]
	n.Topo.Hosts = append(ring().Hosts, host("Wrong", 9, 9))[:3]
	for _, t := range world().Tables {
		n.Tables = append(n.Tables, append(t, bad, bad)[:len(t)])
	}
	n.Tables = append(n.Tables, api.Table{bad})[:3]
	return n
}

// full has all of a net, what lies behind the lengths of its lists as well.
func full(n api.Net) api.Net {
	x := api.Net{Topo: n.Topo}
	x.Topo.Links = slices.Clone(n.Topo.Links[:cap(n.Topo.Links)])
	x.Topo.Hosts = slices.Clone(n.Topo.Hosts[:cap(n.Topo.Hosts)])
	for _, t := range n.Tables[:cap(n.Tables)] {
		x.Tables = append(x.Tables, slices.Clone(t[:cap(t)]))
	}
	return x
}

func TestWhatIsHandedInIsAsItWas(t *testing.T) {
	lists := [][]api.Wish{
		{loops(), {}},
		{reach("cy", "cy"), reach("dan", "dan")},
		{apart("cy", "ann"), way("ann", "cy", 1), way("ann", "cy", 2), {What: 4, From: "x"}},
		{{What: 4, From: "x"}, loops()},
		{reach("dan", "ann"), loops()},
		slices.Repeat(wishes(apart("cy", "ann")), 9),
	}
	for _, room := range lists {
		n, l := roomy(), room[:len(room)-1]
		before, was := full(n), slices.Clone(room)
		want, fault := proofByHand(world(), l)
		holdsIs(t, n, l, want, fault)
		if fault == api.ErrBroken {
			fault = api.OK
		}
		checkIs(t, n.Topo, l, fault)
		if after := full(n); !reflect.DeepEqual(after, before) {
			t.Errorf("the net is now %v, was %v", after, before)
		}
		if !slices.Equal(room, was) {
			t.Errorf("the wishes are now %v, were %v", room, was)
		}
	}
}

// TestProofSharesNoMemory: the name of its host is not that of the net, nor a piece of it.
func TestProofSharesNoMemory(t *testing.T) {
	name := strings.Clone("sender")
	for _, w := range []api.Wish{reach(name, name), loops()} {
		n := api.Net{
			Topo:   api.Topo{Switches: 1, Links: []api.Link{link(1, 1, 1, 2)}, Hosts: []api.Host{host(name, 1, 4)}},
			Tables: []api.Table{tab("10 **** out 1")},
		}
		holdsIs(t, n, wishes(w), api.Proof{From: "sender"}, api.ErrBroken)
		if p, _ := Holds(n, wishes(w)); unsafe.StringData(p.From) == unsafe.StringData(name) {
			t.Errorf("the proof of %v has the name of the net itself", w)
		}
	}
}

// TestAnswersHangOnArgumentsAlone: what was asked before is not to be told from what is answered now.
func TestAnswersHangOnArgumentsAlone(t *testing.T) {
	for range 3 {
		TestHoldsLoops(t)
		TestHoldsFirstWish(t)
		TestThereAndBack(t)
		TestNamesOfLoops(t)
	}
}
