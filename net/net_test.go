package net

import (
	"math"
	"reflect"
	"slices"
	"testing"
	"unsafe"

	"railpoint/api"
	"railpoint/plain"
)

// hops has the hops of a packet: switch, port and header of each.
func hops(numbers ...int) []api.Hop {
	var l []api.Hop
	for h := range slices.Chunk(numbers, 3) {
		l = append(l, api.Hop{At: spot(h[0], h[1]), Header: h[2]})
	}
	return l
}

func arrived(name string, l []api.Hop) api.Fate {
	return api.Fate{How: api.Arrived, Host: name, Hops: l}
}

func dropped(l []api.Hop) api.Fate { return api.Fate{How: api.Dropped, Hops: l} }

func lost(l []api.Hop) api.Fate { return api.Fate{How: api.Lost, Hops: l} }

func looped(l []api.Hop) api.Fate { return api.Fate{How: api.Looped, Hops: l} }

// endsAs fails unless that becomes of the packet whose first hop the fate has.
func endsAs(t *testing.T, n api.Net, f api.Fate) {
	t.Helper()
	fromIs(t, n, f.Hops[0].At, f.Hops[0].Header, f, api.OK)
}

// single is a net of one switch that is joined with itself at the ports 1 and 2, and with the host a at 4.
func single(rules ...string) api.Net {
	return api.Net{
		Topo:   api.Topo{Switches: 1, Links: []api.Link{link(1, 1, 1, 2)}, Hosts: []api.Host{host("a", 1, 4)}},
		Tables: []api.Table{tab(rules...)},
	}
}

func TestStep(t *testing.T) {
	x := world()
	// At which port of a switch it comes in makes no odds: not even whether something is joined there.
	for p := 1; p <= 4; p++ {
		stepIs(t, x, spot(1, p), 4, spot(1, 1), 4, api.OK)
		stepIs(t, x, spot(1, p), 9, spot(1, 4), 9, api.OK)
		stepIs(t, x, spot(2, p), 8, spot(2, 1), 8, api.OK)
		stepIs(t, x, spot(2, p), 5, spot(2, 2), 5, api.OK)
		stepIs(t, x, spot(2, p), 0, spot(2, 4), 0, api.OK)
		stepIs(t, x, spot(3, p), 5, spot(3, 2), 5, api.OK)
		stepIs(t, x, spot(3, p), 15, spot(3, 1), 15, api.OK)
	}
}

func TestStepSets(t *testing.T) {
	x := world()
	stepIs(t, x, spot(1, 3), 14, spot(1, 1), 4, api.OK)
	stepIs(t, x, spot(3, 1), 3, spot(3, 4), 2, api.OK)
	stepIs(t, x, spot(3, 1), 2, spot(3, 4), 2, api.OK)
	for h := range 16 {
		stepIs(t, single("10 **** out 3 set 10*1"), spot(1, 1), h, spot(1, 3), h&2|9, api.OK)
		stepIs(t, single("10 **** out 2 set 0000"), spot(1, 1), h, spot(1, 2), 0, api.OK)
		stepIs(t, single("10 **** out 2"), spot(1, 1), h, spot(1, 2), h, api.OK)
	}
}

// TestStepGoesByTheRuleThatCounts: the greatest Prio, then the greatest Mask, then the greatest Bits, not the first one.
func TestStepGoesByTheRuleThatCounts(t *testing.T) {
	x := single("10 **** out 1", "10 1*** out 2", "10 *1** out 3 set ***0", "20 **11 out 4", "20 **1* drop")
	stepIs(t, x, spot(1, 1), 0, spot(1, 1), 0, api.OK)
	stepIs(t, x, spot(1, 1), 8, spot(1, 2), 8, api.OK)
	stepIs(t, x, spot(1, 1), 13, spot(1, 2), 13, api.OK)
	stepIs(t, x, spot(1, 1), 5, spot(1, 3), 4, api.OK)
	stepIs(t, x, spot(1, 1), 3, spot(1, 4), 3, api.OK)
	stepIs(t, x, spot(1, 1), 2, api.Spot{}, 0, api.ErrNone)
}

func TestStepHasNone(t *testing.T) {
	for h := range 16 {
		stepIs(t, empty(6), spot(6, 4), h, api.Spot{}, 0, api.ErrNone)
		stepIs(t, single("0 **** drop"), spot(1, 4), h, api.Spot{}, 0, api.ErrNone)
	}
	stepIs(t, world(), spot(1, 2), 15, api.Spot{}, 0, api.ErrNone)
	x := single("10 1*** out 2", "11 1**1 drop")
	stepIs(t, x, spot(1, 1), 7, api.Spot{}, 0, api.ErrNone)
	stepIs(t, x, spot(1, 1), 8, spot(1, 2), 8, api.OK)
	stepIs(t, x, spot(1, 1), 9, api.Spot{}, 0, api.ErrNone)
	y := world()
	y.Tables[1] = nil
	stepIs(t, y, spot(1, 1), 4, spot(1, 1), 4, api.OK)
	stepIs(t, y, spot(2, 1), 4, api.Spot{}, 0, api.ErrNone)
	stepIs(t, y, spot(3, 1), 4, spot(3, 4), 4, api.OK)
}

var wrongHeaders = []int{-1, 16, 17, 31, -16, math.MinInt, math.MaxInt}

func wrongSpots(n int) []api.Spot {
	var l []api.Spot
	for _, a := range []int{0, -1, n + 1, math.MinInt, math.MaxInt} {
		l = append(l, spot(a, 1), spot(a, 4), spot(a, 0))
	}
	for _, p := range []int{0, -1, 5, math.MinInt, math.MaxInt} {
		l = append(l, spot(1, p), spot(n, p))
	}
	return l
}

// TestPacketsThatAreNone: a wrong spot, a wrong header and both, whether or not there is a rule.
func TestPacketsThatAreNone(t *testing.T) {
	nets := []api.Net{world(), single("10 **** out 4"), single(), empty(6)}
	for _, x := range nets {
		for _, s := range wrongSpots(x.Topo.Switches) {
			for _, h := range append([]int{0, 7, 15}, wrongHeaders...) {
				stepIs(t, x, s, h, api.Spot{}, 0, api.ErrRange)
				fromIs(t, x, s, h, api.Fate{}, api.ErrRange)
			}
		}
		for _, h := range wrongHeaders {
			for p := 1; p <= 4; p++ {
				stepIs(t, x, spot(1, p), h, api.Spot{}, 0, api.ErrRange)
				fromIs(t, x, spot(1, p), h, api.Fate{}, api.ErrRange)
			}
		}
	}
	stepIs(t, world(), spot(1, 1), 0, spot(1, 4), 0, api.OK)
	stepIs(t, world(), spot(2, 1), 15, spot(2, 1), 15, api.OK)
	endsAs(t, world(), arrived("ann", hops(1, 1, 0)))
	endsAs(t, world(), dropped(hops(2, 1, 15, 1, 1, 15)))
}

func TestSendsThatAreNone(t *testing.T) {
	for _, name := range []string{"", "a", "an", "annn", "Ann", "ann ", "cyn", "wrong name", "\x00", "\xff"} {
		for _, h := range append([]int{0, 15}, wrongHeaders...) {
			sendIs(t, world(), name, h, api.Fate{}, api.ErrNone)
			sendIs(t, empty(2), name, h, api.Fate{}, api.ErrNone)
		}
	}
	for _, name := range []string{"ann", "bob", "cy"} {
		for _, h := range wrongHeaders {
			sendIs(t, world(), name, h, api.Fate{}, api.ErrRange)
		}
	}
	sendIs(t, world(), "ann", 0, arrived("ann", hops(1, 4, 0)), api.OK)
	sendIs(t, world(), "ann", 15, dropped(hops(1, 4, 15)), api.OK)
}

func TestArrived(t *testing.T) {
	x := world()
	sendIs(t, x, "ann", 4, arrived("cy", hops(1, 4, 4, 2, 1, 4, 3, 1, 4)), api.OK)
	sendIs(t, x, "bob", 10, arrived("ann", hops(2, 4, 10, 1, 1, 10)), api.OK)
	sendIs(t, x, "cy", 11, arrived("ann", hops(3, 4, 11, 2, 2, 11, 1, 1, 11)), api.OK)
	endsAs(t, x, arrived("bob", hops(2, 3, 3)))
	endsAs(t, x, arrived("bob", hops(2, 1, 3)))
}

// TestArrivedWhereItWasSent: at the host that sent it, at once or on a way round.
func TestArrivedWhereItWasSent(t *testing.T) {
	x := world()
	sendIs(t, x, "ann", 8, arrived("ann", hops(1, 4, 8)), api.OK)
	sendIs(t, x, "bob", 1, arrived("bob", hops(2, 4, 1)), api.OK)
	sendIs(t, x, "cy", 0, arrived("cy", hops(3, 4, 0)), api.OK)
	y := single("10 0*** out 1 set 1***", "10 1*** out 4 set 0***")
	sendIs(t, y, "a", 3, arrived("a", hops(1, 4, 3, 1, 2, 11)), api.OK)
	sendIs(t, y, "a", 11, arrived("a", hops(1, 4, 11)), api.OK)
}

// TestHeadersOnTheWay: each hop is told with the header with which it came in there, not with the one it went out with.
func TestHeadersOnTheWay(t *testing.T) {
	x := world()
	sendIs(t, x, "ann", 14, arrived("cy", hops(1, 4, 14, 2, 1, 4, 3, 1, 4)), api.OK)
	endsAs(t, x, arrived("cy", hops(3, 2, 3)))
	y := api.Net{
		Topo: api.Topo{Switches: 3, Links: []api.Link{link(2, 3, 1, 2), link(2, 1, 3, 4)}, Hosts: []api.Host{host("b", 3, 1)}},
		Tables: []api.Table{
			tab("1 **** out 2 set ***1"), tab("1 **** out 1 set **1*"), tab("1 **** out 1 set *1**"),
		},
	}
	endsAs(t, y, arrived("b", hops(1, 1, 8, 2, 3, 9, 3, 4, 11)))
}

// TestDropped: at the first switch and at a later one, for want of a rule and by one that says so.
func TestDropped(t *testing.T) {
	x := world()
	sendIs(t, x, "ann", 15, dropped(hops(1, 4, 15)), api.OK)
	sendIs(t, x, "bob", 15, dropped(hops(2, 4, 15, 1, 1, 15)), api.OK)
	sendIs(t, x, "cy", 15, dropped(hops(3, 4, 15, 2, 2, 15, 1, 1, 15)), api.OK)
	x.Tables[0], x.Tables[2] = x.Tables[0][:1], tab("10 *0** out 4", "20 0*** drop")
	sendIs(t, x, "cy", 12, dropped(hops(3, 4, 12)), api.OK)
	sendIs(t, x, "cy", 1, dropped(hops(3, 4, 1)), api.OK)
	sendIs(t, x, "ann", 6, dropped(hops(1, 4, 6, 2, 1, 6, 3, 1, 6)), api.OK)
	x.Tables[1] = nil
	for h := range 16 {
		sendIs(t, x, "bob", h, dropped(hops(2, 4, h)), api.OK)
		sendIs(t, x, "ann", h, dropped(hops(1, 4, h, 2, 1, h)), api.OK)
	}
}

// TestLost: out at a port with neither a host nor a link, which may be the one that it came in at.
func TestLost(t *testing.T) {
	x := world()
	sendIs(t, x, "cy", 7, lost(hops(3, 4, 7)), api.OK)
	endsAs(t, x, lost(hops(3, 2, 5)))
	sendIs(t, x, "ann", 5, lost(hops(1, 4, 5, 2, 1, 5, 3, 1, 5)), api.OK)
	x.Topo.Hosts = x.Topo.Hosts[1:]
	endsAs(t, x, lost(hops(1, 4, 0)))
	x.Topo.Links = nil
	sendIs(t, x, "bob", 8, lost(hops(2, 4, 8)), api.OK)
	sendIs(t, x, "bob", 4, lost(hops(2, 4, 4)), api.OK)
	sendIs(t, x, "bob", 0, arrived("bob", hops(2, 4, 0)), api.OK)
}

// TestLooped: the hop that comes again is not told, be it the first one, one in the middle or the last one.
func TestLooped(t *testing.T) {
	x := single("10 **** out 1")
	for h := range 16 {
		sendIs(t, x, "a", h, looped(hops(1, 4, h, 1, 2, h)), api.OK)
		endsAs(t, x, looped(hops(1, 2, h)))
		endsAs(t, x, looped(hops(1, 1, h, 1, 2, h)))
	}
	ring := api.Net{
		Topo: api.Topo{Switches: 3, Links: []api.Link{link(1, 1, 2, 2), link(2, 1, 3, 2), link(1, 2, 3, 1)},
			Hosts: []api.Host{host("z", 2, 4)}},
		Tables: slices.Repeat([]api.Table{tab("10 **** out 1")}, 3),
	}
	endsAs(t, ring, looped(hops(1, 2, 6, 2, 2, 6, 3, 2, 6)))
	sendIs(t, ring, "z", 6, looped(hops(2, 4, 6, 3, 2, 6, 1, 2, 6, 2, 2, 6)), api.OK)
	ring.Tables[0] = tab("10 **** out 2")
	sendIs(t, ring, "z", 1, looped(hops(2, 4, 1, 3, 2, 1, 1, 2, 1, 3, 1, 1)), api.OK)
}

// TestWithAnotherHeaderItIsNotLooped: nor with the same one at another port of the switch.
func TestWithAnotherHeaderItIsNotLooped(t *testing.T) {
	x := single("10 00** out 1 set 01**", "10 01** out 1 set 11**", "10 11** out 4")
	sendIs(t, x, "a", 1, arrived("a", hops(1, 4, 1, 1, 2, 5, 1, 2, 13)), api.OK)
	y := single("10 00** out 1 set 01**", "10 01** out 1 set 11**", "10 11** out 1 set 01**")
	sendIs(t, y, "a", 1, looped(hops(1, 4, 1, 1, 2, 5, 1, 2, 13)), api.OK)
	sendIs(t, y, "a", 5, looped(hops(1, 4, 5, 1, 2, 13, 1, 2, 5)), api.OK)
}

// counter sends a packet to and fro between two switches, the first of which counts its header up, till it is 15.
func counter(last string) api.Net {
	return api.Net{
		Topo: api.Topo{Switches: 2, Links: []api.Link{link(1, 1, 2, 1)},
			Hosts: []api.Host{host("one", 1, 4), host("two", 2, 4), host("end", 1, 3)}},
		Tables: []api.Table{
			tab("1 ***0 out 1 set ***1", "1 **01 out 1 set **10", "1 *011 out 1 set *100", "1 0111 out 1 set 1000", last),
			tab("1 **** out 1"),
		},
	}
}

// counted has the first hops of a packet that comes in at the counter, no more than 24.
func counted(in api.Hop) []api.Hop {
	l := []api.Hop{in}
	for len(l) < 24 && (in.At.Switch == 2 || in.Header < 15) {
		if in.At.Switch == 1 {
			in = api.Hop{At: spot(2, 1), Header: in.Header + 1}
		} else {
			in = api.Hop{At: spot(1, 1), Header: in.Header}
		}
		l = append(l, in)
	}
	return l
}

// TestAtMostSoManyHops: how a packet ends at its 24th hop is told; one that would come in once more is looped.
func TestAtMostSoManyHops(t *testing.T) {
	for last, fate := range map[string]func([]api.Hop) api.Fate{
		"1 1111 out 3": func(l []api.Hop) api.Fate { return arrived("end", l) },
		"1 1111 out 2": lost,
		"1 1111 drop":  dropped,
	} {
		x := counter(last)
		for h := range 16 {
			one, two := counted(api.Hop{At: spot(1, 4), Header: h}), counted(api.Hop{At: spot(2, 4), Header: h})
			if h < 4 {
				sendIs(t, x, "one", h, looped(one), api.OK)
				sendIs(t, x, "two", h, looped(two), api.OK)
				continue
			}
			sendIs(t, x, "one", h, fate(one), api.OK)
			sendIs(t, x, "two", h, fate(two), api.OK)
		}
	}
	if l := counted(api.Hop{At: spot(2, 4), Header: 4}); len(l) != 24 || l[23].Header != 15 {
		t.Errorf("the bound is to be met: %v", l)
	}
	if l := counted(api.Hop{At: spot(1, 4), Header: 3}); len(l) != 24 || l[23].At != spot(2, 1) {
		t.Errorf("the bound is to be met by one hop: %v", l)
	}
}

// more has behind each of its lists, and tables, things that would be told if they were read. What it answers behind the
// net has all of these lists, whole.
func more(n api.Net) (api.Net, func() api.Net) {
	links := append(slices.Clone(n.Topo.Links), link(1, 2, 1, 3), link(0, 0, 0, 0))
	hosts := append(slices.Clone(n.Topo.Hosts), host("behind", 1, 2), host("", 0, 0))
	tables := make([]api.Table, 0, 10)
	for _, t := range n.Tables {
		tables = append(tables, append(slices.Clone(t), api.Rule{Prio: 99, Out: 2}, api.Rule{Prio: -1}))
	}
	whole := append(slices.Clone(tables), tab("99 **** drop"), api.Table{{Prio: -1}})
	x := api.Net{
		Topo:   api.Topo{Switches: n.Topo.Switches, Links: links[:len(n.Topo.Links)], Hosts: hosts[:len(n.Topo.Hosts)]},
		Tables: slices.Clone(whole)[:len(n.Tables)],
	}
	for i, t := range n.Tables {
		x.Tables[i] = tables[i][:len(t)]
	}
	handed := x.Tables[:len(whole)]
	return x, func() api.Net {
		out := api.Net{Topo: api.Topo{Switches: n.Topo.Switches, Links: slices.Clone(links), Hosts: slices.Clone(hosts)}}
		for i, t := range handed {
			if i < len(n.Tables) {
				t = t[:len(t)+2]
			}
			out.Tables = append(out.Tables, slices.Clone(t))
		}
		return out
	}
}

// TestWhatIsHandedInStays: the lists and what lies behind them are neither written nor read.
func TestWhatIsHandedInStays(t *testing.T) {
	clash := world()
	clash.Tables[2] = append(clash.Tables[2], clash.Tables[2][0])
	for _, n := range []api.Net{world(), clash, single("10 **** out 1"), counter("1 1111 out 3"), empty(6), empty(7)} {
		x, whole := more(n)
		was := whole()
		checkIs(t, x, plain.Told(Check(n)))
		for h := -1; h <= 16; h++ {
			for p := 1; p <= 4; p++ {
				s, with, err := Step(n, spot(1, p), h)
				stepIs(t, x, spot(1, p), h, s, with, plain.Told(err))
				f, err := From(n, spot(1, p), h)
				fromIs(t, x, spot(1, p), h, f, plain.Told(err))
			}
			for _, name := range []string{"ann", "bob", "cy", "a", "one", "behind", ""} {
				f, err := Send(n, name, h)
				sendIs(t, x, name, h, f, plain.Told(err))
			}
		}
		if got := whole(); !reflect.DeepEqual(got, was) {
			t.Errorf("what was handed in is %v, was %v", got, was)
		}
	}
}

// TestAnswersAreFresh: what comes out may be written into, and holds nothing of what was handed in.
func TestAnswersAreFresh(t *testing.T) {
	x := world()
	want := arrived("cy", hops(1, 4, 4, 2, 1, 4, 3, 1, 4))
	f, _ := Send(x, "ann", 4)
	g, _ := Send(x, "ann", 4)
	k, _ := From(x, spot(1, 4), 4)
	for i := range f.Hops {
		f.Hops[i] = api.Hop{At: spot(9, 9), Header: 9}
	}
	_ = append(g.Hops[:1], hops(9, 9, 9)...)
	sendIs(t, x, "ann", 4, want, api.OK)
	if !slices.Equal(k.Hops, want.Hops) || !slices.Equal(g.Hops, append(hops(1, 4, 4, 9, 9, 9), want.Hops[2])) {
		t.Errorf("two answers share memory: %v, %v", g, k)
	}
	for _, f := range []api.Fate{g, k} {
		if f.Host != "cy" || unsafe.StringData(f.Host) == unsafe.StringData(x.Topo.Hosts[2].Name) {
			t.Errorf("the host %q shares memory with the name that was handed in", f.Host)
		}
	}
}

// TestNothingIsKept: a call answers by its own net, whatever was asked before.
func TestNothingIsKept(t *testing.T) {
	x, y := world(), world()
	y.Tables[1], y.Topo.Hosts = tab("10 **** out 4"), y.Topo.Hosts[:2]
	for range 3 {
		sendIs(t, x, "ann", 4, arrived("cy", hops(1, 4, 4, 2, 1, 4, 3, 1, 4)), api.OK)
		sendIs(t, y, "ann", 4, arrived("bob", hops(1, 4, 4, 2, 1, 4)), api.OK)
		sendIs(t, y, "cy", 4, api.Fate{}, api.ErrNone)
		stepIs(t, x, spot(2, 1), 4, spot(2, 2), 4, api.OK)
		stepIs(t, y, spot(2, 1), 4, spot(2, 4), 4, api.OK)
	}
}
