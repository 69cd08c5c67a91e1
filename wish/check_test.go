package wish

import (
	"math"
	"slices"
	"testing"

	"railpoint/api"
	"railpoint/plain"
)

func spot(a, port int) api.Spot { return api.Spot{Switch: a, Port: port} }

func link(a, ap, b, bp int) api.Link { return api.Link{A: spot(a, ap), B: spot(b, bp)} }

func host(name string, a, port int) api.Host { return api.Host{Name: name, At: spot(a, port)} }

func reach(from, to string) api.Wish { return api.Wish{What: 1, From: from, To: to} }

func apart(from, to string) api.Wish { return api.Wish{What: 2, From: from, To: to} }

func way(from, to string, via int) api.Wish { return api.Wish{What: 3, From: from, To: to, Via: via} }

func loops() api.Wish { return api.Wish{What: 4} }

// wishes is just the list of them.
func wishes(l ...api.Wish) []api.Wish { return l }

// ring is a right topology of three switches, with a host at each.
func ring() api.Topo {
	return api.Topo{
		Switches: 3,
		Links:    []api.Link{link(1, 1, 2, 1), link(2, 2, 3, 1), link(3, 2, 1, 2)},
		Hosts:    []api.Host{host("cy", 3, 4), host("ann", 1, 4), host("bob", 2, 4)},
	}
}

// wrongTopos has each fault that chapter 5 names.
func wrongTopos() map[api.Errno][]api.Topo {
	return map[api.Errno][]api.Topo{
		api.ErrRange: {
			{}, {Switches: -1}, {Switches: 7}, {Switches: math.MinInt}, {Switches: math.MaxInt},
			{Switches: 2, Links: []api.Link{link(1, 1, 3, 1)}},
			{Switches: 2, Links: []api.Link{link(1, 5, 2, 1)}},
			{Switches: 2, Hosts: []api.Host{host("a", 2, 0)}},
		},
		api.ErrFull: {
			{Switches: 2, Links: slices.Repeat([]api.Link{link(1, 1, 2, 1)}, 201)},
			{Switches: 2, Hosts: slices.Repeat([]api.Host{host("a", 1, 1)}, 9)},
		},
		api.ErrSyntax: {
			{Switches: 2, Hosts: []api.Host{host("", 1, 1)}},
			{Switches: 2, Hosts: []api.Host{host("wrongly", 1, 1)}},
			{Switches: 2, Hosts: []api.Host{host("a", 1, 1), host("A", 1, 2)}},
		},
		api.ErrClash: {
			{Switches: 2, Links: []api.Link{link(1, 1, 1, 1)}},
			{Switches: 2, Links: []api.Link{link(1, 1, 2, 1), link(2, 1, 1, 2)}},
			{Switches: 2, Links: []api.Link{link(1, 1, 2, 1)}, Hosts: []api.Host{host("a", 2, 1)}},
			{Switches: 2, Hosts: []api.Host{host("a", 2, 1), host("a", 1, 1)}},
		},
	}
}

// checkIs fails unless Check tells just that.
func checkIs(t *testing.T, x api.Topo, l []api.Wish, want api.Errno) {
	t.Helper()
	if got := plain.Told(Check(x, l)); got != want {
		t.Errorf("Check(%v, %v): %v, want %v", x, l, got, want)
	}
	if want == api.OK {
		return
	}
	// With empty tables chapter 6 has no other fault to tell, and what Check tells is told by Holds.
	n := api.Net{Topo: x, Tables: make([]api.Table, min(max(x.Switches, 0), 8))}
	if p, err := Holds(n, l); p != (api.Proof{}) || plain.Told(err) != want {
		t.Errorf("Holds(%v, %v): %v, %v, want %v", n, l, p, err, want)
	}
}

// wishIs fails unless Check tells just that of one wish of the ring.
func wishIs(t *testing.T, w api.Wish, want api.Errno) {
	t.Helper()
	checkIs(t, ring(), wishes(w), want)
}

func TestRightWishes(t *testing.T) {
	names := []string{"ann", "bob", "cy"}
	for _, from := range names {
		for _, to := range names {
			wishIs(t, reach(from, to), api.OK)
			wishIs(t, apart(from, to), api.OK)
			for via := 1; via <= 3; via++ {
				wishIs(t, way(from, to, via), api.OK)
			}
		}
	}
	wishIs(t, loops(), api.OK)
}

func TestNoWishes(t *testing.T) {
	for _, l := range [][]api.Wish{nil, {}} {
		checkIs(t, ring(), l, api.OK)
		for n := 1; n <= 6; n++ {
			checkIs(t, api.Topo{Switches: n}, l, api.OK)
			checkIs(t, api.Topo{Switches: n}, wishes(loops()), api.OK)
		}
	}
}

// TestWrongTopos: whatever the wishes are, what is wrong with the topology is told ahead of them.
func TestWrongTopos(t *testing.T) {
	for want, all := range wrongTopos() {
		for _, x := range all {
			for _, w := range []api.Wish{loops(), {}, {What: 4, From: "a"}, reach("none", "none"), way("a", "a", 0)} {
				for _, n := range []int{0, 1, 8, 9, 300} {
					checkIs(t, x, slices.Repeat(wishes(w), n), want)
				}
			}
		}
	}
}

func TestHowManyWishes(t *testing.T) {
	for n := range 12 {
		want := api.OK
		if n > 8 {
			want = api.ErrFull
		}
		checkIs(t, ring(), slices.Repeat(wishes(loops()), n), want)
		checkIs(t, ring(), slices.Repeat(wishes(apart("cy", "ann")), n), want)
	}
	// Too many are told ahead of what is wrong with one of them, whichever it is.
	for _, bad := range []api.Wish{{}, {What: 4, To: "ann"}, reach("no", "ann")} {
		for _, n := range []int{9, 10, 200, 5000} {
			checkIs(t, ring(), slices.Repeat(wishes(bad), n), api.ErrFull)
		}
		for i := range 9 {
			checkIs(t, ring(), slices.Insert(slices.Repeat(wishes(loops()), 8), i, bad), api.ErrFull)
		}
	}
}

func TestWhatIsNone(t *testing.T) {
	for _, what := range []int{0, 5, -1, 6, -3, 1 << 32, 1<<32 + 1, math.MinInt, math.MaxInt} {
		for _, w := range []api.Wish{{}, {From: "ann", To: "bob"}, {From: "ann", To: "bob", Via: 1}, {From: "x"}} {
			w.What = what
			wishIs(t, w, api.ErrRange)
		}
	}
}

var farVias = []int{-1, -2, 7, 8, 1 << 32, 1<<32 + 1, math.MinInt, math.MaxInt}

// TestViaOfWay: it is one of the switches that there are, not of those that there may be.
func TestViaOfWay(t *testing.T) {
	for n := 1; n <= 6; n++ {
		x := api.Topo{Switches: n, Hosts: []api.Host{host("a", 1, 1), host("b", n, 2)}}
		for via := 0; via <= 8; via++ {
			want := api.ErrRange
			if via >= 1 && via <= n {
				want = api.OK
			}
			checkIs(t, x, wishes(way("a", "b", via)), want)
		}
		for _, via := range farVias {
			checkIs(t, x, wishes(way("b", "a", via)), api.ErrRange)
		}
	}
}

func TestViaOfOthers(t *testing.T) {
	for _, via := range append([]int{1, 2, 3, 4}, farVias...) {
		for _, w := range []api.Wish{reach("ann", "bob"), apart("ann", "bob"), loops()} {
			w.Via = via
			wishIs(t, w, api.ErrRange)
		}
	}
}

// strangers has names of no host of the ring, right ones and wrong ones.
var strangers = []string{"", "a", "an", "annn", "dan", "Ann", "ann ", " ann", "bo", "c", "cy\x00", "longname", "\xff", "ä"}

func TestHostsThatAreNot(t *testing.T) {
	for _, no := range strangers {
		for _, w := range []api.Wish{
			reach(no, "ann"), reach("ann", no), reach(no, no), apart(no, "cy"), apart("cy", no), apart(no, no),
			way(no, "bob", 1), way("bob", no, 2), way(no, no, 3),
		} {
			wishIs(t, w, api.ErrNone)
		}
	}
	for _, w := range []api.Wish{reach("a", "a"), apart("", ""), way("ann", "ann", 1)} {
		checkIs(t, api.Topo{Switches: 1}, wishes(w), api.ErrNone)
	}
}

func TestNamesOfLoops(t *testing.T) {
	for _, name := range []string{"ann", "cy", "dan", "A", "longname", " "} {
		wishIs(t, api.Wish{What: 4, From: name}, api.ErrShape)
		wishIs(t, api.Wish{What: 4, To: name}, api.ErrShape)
		wishIs(t, api.Wish{What: 4, From: name, To: "bob"}, api.ErrShape)
		wishIs(t, api.Wish{What: 4, From: "bob", To: name}, api.ErrShape)
	}
}

// TestSeveralFaultsOfAWish: the numbers ahead of the names.
func TestSeveralFaultsOfAWish(t *testing.T) {
	for _, no := range strangers {
		wishIs(t, api.Wish{What: 5, From: no, To: no, Via: -1}, api.ErrRange)
		wishIs(t, api.Wish{What: 1, From: no, To: no, Via: 1}, api.ErrRange)
		wishIs(t, api.Wish{What: 2, From: no, To: "ann", Via: 1}, api.ErrRange)
		wishIs(t, way(no, "ann", 0), api.ErrRange)
		wishIs(t, way("ann", no, 4), api.ErrRange)
		wishIs(t, api.Wish{What: 4, From: no, To: "x", Via: 1}, api.ErrRange)
	}
}

// TestSeveralWrongWishes: what is wrong with the first that has a fault, whatever is wrong with those behind it.
func TestSeveralWrongWishes(t *testing.T) {
	wrong := map[api.Errno][]api.Wish{
		api.ErrRange: {{}, way("ann", "bob", 4), {What: 1, From: "ann", To: "bob", Via: 1}, {What: 4, Via: 1}},
		api.ErrShape: {{What: 4, From: "ann"}, {What: 4, To: "ann"}, {What: 4, From: "a", To: "a"}},
		api.ErrNone:  {reach("ann", "dan"), apart("dan", "ann"), way("", "", 1)},
	}
	right := wishes(loops(), way("ann", "cy", 3), reach("cy", "cy"))
	for want, firsts := range wrong {
		for _, first := range firsts {
			for _, seconds := range wrong {
				for _, second := range seconds {
					checkIs(t, ring(), wishes(first, second), want)
					checkIs(t, ring(), slices.Concat(right, wishes(first), right, wishes(second)), want)
				}
			}
		}
	}
}
