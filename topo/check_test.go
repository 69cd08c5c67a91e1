package topo

import (
	"math"
	"slices"
	"strings"
	"testing"

	"railpoint/api"
	"railpoint/plain"
)

func spot(a, port int) api.Spot { return api.Spot{Switch: a, Port: port} }

func link(a, ap, b, bp int) api.Link { return api.Link{A: spot(a, ap), B: spot(b, bp)} }

func host(name string, a, port int) api.Host { return api.Host{Name: name, At: spot(a, port)} }

func links(l ...api.Link) []api.Link { return l }

func hosts(l ...api.Host) []api.Host { return l }

// world is a right topology of all switches: a line 1 - 2 - 3 with a short cut 3 - 1, 3 - 4 twice, 5 with itself, 6 alone.
func world() api.Topo {
	return api.Topo{
		Switches: 6,
		Links: links(link(1, 1, 2, 1), link(2, 4, 3, 1), link(3, 2, 1, 2), link(3, 3, 4, 1),
			link(4, 4, 3, 4), link(5, 1, 5, 4)),
		Hosts: hosts(host("a", 1, 4), host("bbbbbb", 6, 4), host("zaz", 4, 2)),
	}
}

// checkIs fails unless Check tells just that, and every other call as well, whatever else is wrong.
func checkIs(t *testing.T, x api.Topo, want api.Errno) {
	t.Helper()
	if got := plain.Told(Check(x)); got != want {
		t.Errorf("Check(%v): %v, want %v", x, got, want)
	}
	if want == api.OK {
		return
	}
	for _, s := range []api.Spot{spot(1, 1), spot(1, 4), spot(0, 0), spot(7, 5), spot(1, 0)} {
		if p, err := Peer(x, s); p != spot(0, 0) || plain.Told(err) != want {
			t.Errorf("Peer(%v, %v): %v, %v, want %v", x, s, p, err, want)
		}
		if n, err := At(x, s); n != "" || plain.Told(err) != want {
			t.Errorf("At(%v, %v): %q, %v, want %v", x, s, n, err, want)
		}
	}
	for _, n := range []string{"", "a", "none", "wrong name"} {
		if s, err := Where(x, n); s != spot(0, 0) || plain.Told(err) != want {
			t.Errorf("Where(%v, %q): %v, %v, want %v", x, n, s, err, want)
		}
	}
	for _, a := range []int{1, 0, 7} {
		if l, err := Near(x, a); l != nil || plain.Told(err) != want {
			t.Errorf("Near(%v, %d): %v, %v, want %v", x, a, l, err, want)
		}
		for _, b := range []int{1, -1, 9} {
			if n, err := Far(x, a, b); n != 0 || plain.Told(err) != want {
				t.Errorf("Far(%v, %d, %d): %d, %v, want %v", x, a, b, n, err, want)
			}
		}
	}
}

// linksAre fails unless Check tells that of those links between two switches.
func linksAre(t *testing.T, want api.Errno, l ...api.Link) {
	t.Helper()
	checkIs(t, api.Topo{Switches: 2, Links: l}, want)
}

// hostsAre fails unless Check tells that of those hosts at two switches.
func hostsAre(t *testing.T, want api.Errno, l ...api.Host) {
	t.Helper()
	checkIs(t, api.Topo{Switches: 2, Hosts: l}, want)
}

func TestSwitches(t *testing.T) {
	for n := 1; n <= 6; n++ {
		checkIs(t, api.Topo{Switches: n}, api.OK)
	}
	for _, n := range []int{0, 7, -1, 8, 200, math.MinInt, math.MaxInt} {
		checkIs(t, api.Topo{Switches: n}, api.ErrRange)
	}
	checkIs(t, api.Topo{}, api.ErrRange)
	checkIs(t, world(), api.OK)
}

func TestHowManyLinks(t *testing.T) {
	for n, want := range map[int]api.Errno{1: api.OK, 2: api.ErrClash, 200: api.ErrClash, 201: api.ErrFull, 5000: api.ErrFull} {
		linksAre(t, want, slices.Repeat(links(link(1, 1, 2, 1)), n)...)
	}
	linksAre(t, api.ErrRange, slices.Repeat(links(link(0, 1, 2, 1)), 200)...)
	linksAre(t, api.ErrFull, slices.Repeat(links(link(0, 1, 2, 1)), 201)...)
	checkIs(t, every(), api.OK)
}

// every has a link at each spot that there may be.
func every() api.Topo {
	x := api.Topo{Switches: 6}
	for a := 1; a <= 6; a++ {
		x.Links = append(x.Links, link(a, 1, a%6+1, 2), link(a, 4, a, 3))
	}
	return x
}

func TestHowManyHosts(t *testing.T) {
	var l []api.Host
	for i := range 9 {
		l = append(l, host(string(rune('a'+i)), i/4+1, i%4+1))
	}
	for n := range 9 {
		checkIs(t, api.Topo{Switches: 3, Hosts: l[:n]}, api.OK)
	}
	checkIs(t, api.Topo{Switches: 3, Hosts: l}, api.ErrFull)
	checkIs(t, api.Topo{Switches: 3, Hosts: slices.Repeat(hosts(host("", 0, 0)), 9)}, api.ErrFull)
	checkIs(t, api.Topo{Switches: 3, Hosts: slices.Repeat(hosts(host("", 0, 0)), 8)}, api.ErrSyntax)
	checkIs(t, api.Topo{Switches: 3, Hosts: slices.Repeat(l, 500)}, api.ErrFull)
}

// TestFullTellsAheadOfWhatIsInside: too many hosts are told ahead of wrong links.
func TestFullTellsAheadOfWhatIsInside(t *testing.T) {
	bad, none := links(link(0, 0, 0, 0)), hosts(host("", 0, 0))
	checkIs(t, api.Topo{Switches: 2, Links: bad, Hosts: slices.Repeat(none, 9)}, api.ErrFull)
	checkIs(t, api.Topo{Switches: 2, Links: slices.Repeat(bad, 201), Hosts: none}, api.ErrFull)
	for _, n := range []int{0, 7} {
		checkIs(t, api.Topo{Switches: n, Links: slices.Repeat(bad, 201), Hosts: slices.Repeat(none, 9)}, api.ErrRange)
		checkIs(t, api.Topo{Switches: n, Hosts: none}, api.ErrRange)
	}
}

// TestSpots: at both ends of a link, and of a host, just the ports 1 to 4 of the switches that there are.
func TestSpots(t *testing.T) {
	numbers := []int{math.MinInt, -1, 0, 1, 2, 3, 4, 5, 6, 7, 8, math.MaxInt}
	for n := 1; n <= 6; n++ {
		free := spot(n, 2)
		for _, a := range numbers {
			for _, p := range numbers {
				s, want := spot(a, p), api.ErrRange
				if a >= 1 && a <= n && p >= 1 && p <= 4 {
					want = api.OK
				}
				checkIs(t, api.Topo{Switches: n, Hosts: []api.Host{{Name: "x", At: s}}}, want)
				if s == free {
					want = api.ErrClash
				}
				checkIs(t, api.Topo{Switches: n, Links: []api.Link{{A: s, B: free}}}, want)
				checkIs(t, api.Topo{Switches: n, Links: []api.Link{{A: free, B: s}}}, want)
			}
		}
	}
}

func TestNames(t *testing.T) {
	for n, want := range map[int]api.Errno{0: api.ErrSyntax, 1: api.OK, 2: api.OK, 6: api.OK, 7: api.ErrSyntax, 3000: api.ErrSyntax} {
		for _, c := range []string{"a", "m", "z"} {
			hostsAre(t, want, host(strings.Repeat(c, n), 1, 1))
		}
	}
	for b := range 256 {
		want := api.ErrSyntax
		if strings.IndexByte("abcdefghijklmnopqrstuvwxyz", byte(b)) >= 0 {
			want = api.OK
		}
		for _, n := range []int{1, 2, 3, 6} {
			for i := range n {
				name := []byte("ambzyx")[:n]
				name[i] = byte(b)
				hostsAre(t, want, host(string(name), 1, 1))
			}
		}
	}
	hostsAre(t, api.ErrSyntax, host("ä", 1, 1))
	hostsAre(t, api.ErrSyntax, host("aé", 1, 1))
	hostsAre(t, api.ErrSyntax, host("š", 1, 1)) // its low byte is that of a letter
}

func TestASpotTwice(t *testing.T) {
	one := link(1, 1, 2, 1)
	linksAre(t, api.ErrClash, link(1, 1, 1, 1))
	linksAre(t, api.ErrClash, link(2, 4, 2, 4))
	linksAre(t, api.ErrClash, one, one)
	for _, l := range links(link(1, 1, 2, 2), link(2, 2, 1, 1), link(2, 1, 1, 2), link(1, 2, 2, 1), link(2, 1, 1, 1)) {
		linksAre(t, api.ErrClash, one, l)
		linksAre(t, api.ErrClash, one, link(1, 3, 2, 3), l)
	}
	linksAre(t, api.OK, one, link(1, 2, 2, 2), link(2, 3, 1, 3), link(1, 4, 2, 4))
	hostsAre(t, api.ErrClash, host("a", 1, 1), host("b", 1, 1))
	hostsAre(t, api.ErrClash, host("a", 1, 1), host("b", 1, 2), host("c", 1, 1))
	hostsAre(t, api.OK, host("a", 1, 1), host("b", 1, 2), host("c", 2, 1))
	for _, h := range hosts(host("a", 1, 1), host("a", 2, 1)) {
		checkIs(t, api.Topo{Switches: 2, Links: links(one), Hosts: hosts(h)}, api.ErrClash)
		checkIs(t, api.Topo{Switches: 2, Links: links(one), Hosts: hosts(host("b", 1, 3), h)}, api.ErrClash)
	}
	checkIs(t, api.Topo{Switches: 2, Links: links(one), Hosts: hosts(host("a", 1, 2), host("b", 2, 2))}, api.OK)
}

func TestANameTwice(t *testing.T) {
	hostsAre(t, api.ErrClash, host("a", 1, 1), host("a", 1, 2))
	hostsAre(t, api.ErrClash, host("a", 1, 1), host("a", 1, 1))
	hostsAre(t, api.ErrClash, host("abcdef", 1, 1), host("b", 1, 2), host("abcdef", 2, 1))
	hostsAre(t, api.OK, host("abcdef", 1, 1), host("abcde", 1, 2), host("bbcdef", 2, 1), host("abcdeg", 2, 2))
}

// TestFaultsOfOneLink: its range, at either end, is told ahead of its clash.
func TestFaultsOfOneLink(t *testing.T) {
	one := link(1, 1, 2, 1)
	linksAre(t, api.ErrRange, one, link(1, 1, 2, 5))
	linksAre(t, api.ErrRange, one, link(3, 1, 1, 1))
	linksAre(t, api.ErrRange, link(0, 1, 0, 1))
	linksAre(t, api.ErrRange, link(3, 1, 1, 0))
}

// TestFaultsOfOneHost: its name is told ahead of its spot's range, and that ahead of a clash.
func TestFaultsOfOneHost(t *testing.T) {
	hostsAre(t, api.ErrSyntax, host("A", 1, 5))
	hostsAre(t, api.ErrSyntax, host("", 0, 1))
	hostsAre(t, api.ErrSyntax, host("a", 1, 1), host("abcdefg", 1, 1))
	hostsAre(t, api.ErrRange, host("a", 1, 1), host("a", 3, 1))
	hostsAre(t, api.ErrRange, host("a", 1, 1), host("a", 1, 0))
	checkIs(t, api.Topo{Switches: 2, Links: links(link(1, 1, 2, 1)), Hosts: hosts(host("a b", 1, 1))}, api.ErrSyntax)
}

// TestFaultsOfSeveral: of several links, or hosts, what is wrong with the first that has a fault is told.
func TestFaultsOfSeveral(t *testing.T) {
	one, far := link(1, 1, 2, 1), link(3, 1, 1, 2)
	linksAre(t, api.ErrClash, one, one, far)
	linksAre(t, api.ErrRange, one, far, one)
	linksAre(t, api.ErrRange, far, one, one)
	linksAre(t, api.ErrClash, link(1, 1, 1, 1), far)
	a, ill, off := host("a", 1, 1), host("", 1, 2), host("b", 9, 1)
	for _, c := range []struct {
		want api.Errno
		l    []api.Host
	}{
		{api.ErrClash, hosts(a, a, ill)},
		{api.ErrClash, hosts(a, a, off)},
		{api.ErrSyntax, hosts(a, ill, a)},
		{api.ErrSyntax, hosts(ill, off, a, a)},
		{api.ErrSyntax, hosts(ill, ill)},
		{api.ErrRange, hosts(off, ill)},
		{api.ErrRange, hosts(a, off, a)},
		{api.ErrRange, hosts(off, off)},
		{api.ErrClash, hosts(a, host("b", 1, 1), host("c", 2, 0), ill)},
	} {
		hostsAre(t, c.want, c.l...)
	}
}

// TestFaultsOfLinksAndHosts: all links are asked ahead of the hosts.
func TestFaultsOfLinksAndHosts(t *testing.T) {
	one, far := link(1, 1, 2, 1), link(1, 2, 2, 5)
	a, ill, off := host("a", 1, 3), host("A", 1, 2), host("b", 9, 1)
	for _, c := range []struct {
		want api.Errno
		l    []api.Link
		h    []api.Host
	}{
		{api.ErrRange, links(one, far), hosts(ill)},
		{api.ErrRange, links(far), hosts(a, a)},
		{api.ErrClash, links(one, one), hosts(ill)},
		{api.ErrClash, links(one, one), hosts(off)},
		{api.ErrSyntax, links(one), hosts(ill, off)},
		{api.ErrRange, links(one), hosts(off, ill)},
		{api.ErrClash, links(one), hosts(host("b", 2, 1), off, ill)},
		{api.ErrRange, links(one, far), hosts(host("a", 1, 1))},
	} {
		checkIs(t, api.Topo{Switches: 2, Links: c.l, Hosts: c.h}, c.want)
	}
}
