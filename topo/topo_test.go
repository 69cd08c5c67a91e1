package topo

import (
	"math"
	"slices"
	"strings"
	"testing"
	"unsafe"

	"railpoint/api"
	"railpoint/plain"
)

func peerIs(t *testing.T, x api.Topo, s, want api.Spot, fault api.Errno) {
	t.Helper()
	if got, err := Peer(x, s); got != want || plain.Told(err) != fault {
		t.Errorf("Peer(%v, %v): %v, %v, want %v, %v", x, s, got, err, want, fault)
	}
}

func atIs(t *testing.T, x api.Topo, s api.Spot, want string, fault api.Errno) {
	t.Helper()
	if got, err := At(x, s); got != want || plain.Told(err) != fault {
		t.Errorf("At(%v, %v): %q, %v, want %q, %v", x, s, got, err, want, fault)
	}
}

func whereIs(t *testing.T, x api.Topo, name string, want api.Spot, fault api.Errno) {
	t.Helper()
	if got, err := Where(x, name); got != want || plain.Told(err) != fault {
		t.Errorf("Where(%v, %q): %v, %v, want %v, %v", x, name, got, err, want, fault)
	}
}

func nearIs(t *testing.T, x api.Topo, a int, want []int, fault api.Errno) {
	t.Helper()
	got, err := Near(x, a)
	if !slices.Equal(got, want) || plain.Told(err) != fault {
		t.Errorf("Near(%v, %d): %v, %v, want %v, %v", x, a, got, err, want, fault)
	}
}

func farIs(t *testing.T, x api.Topo, a, b, want int, fault api.Errno) {
	t.Helper()
	if got, err := Far(x, a, b); got != want || plain.Told(err) != fault {
		t.Errorf("Far(%v, %d, %d): %d, %v, want %d, %v", x, a, b, got, err, want, fault)
	}
}

// wrongSpots has spots that no topology of n switches has.
func wrongSpots(n int) []api.Spot {
	var l []api.Spot
	for _, a := range []int{0, -1, n + 1, math.MinInt, math.MaxInt} {
		l = append(l, spot(a, 1), spot(a, 4), spot(a, 0))
	}
	for _, p := range []int{0, -1, 5, math.MinInt, math.MaxInt} {
		l = append(l, spot(1, p), spot(n, p))
	}
	return l
}

func TestPeer(t *testing.T) {
	x := world()
	none := map[api.Spot]int{}
	for a := 1; a <= 6; a++ {
		for p := 1; p <= 4; p++ {
			none[spot(a, p)]++
		}
	}
	for _, l := range x.Links {
		peerIs(t, x, l.A, l.B, api.OK)
		peerIs(t, x, l.B, l.A, api.OK)
		delete(none, l.A)
		delete(none, l.B)
	}
	if len(none) != 12 || none[spot(1, 4)] != 1 {
		t.Fatalf("12 spots without a link, of them one with the host a: %v", none)
	}
	for s := range none {
		peerIs(t, x, s, api.Spot{}, api.ErrNone)
		peerIs(t, api.Topo{Switches: 6}, s, api.Spot{}, api.ErrNone)
	}
}

func TestAt(t *testing.T) {
	x := world()
	who := map[api.Spot]string{spot(1, 4): "a", spot(6, 4): "bbbbbb", spot(4, 2): "zaz"}
	for a := 1; a <= 6; a++ {
		for p := 1; p <= 4; p++ {
			s := spot(a, p)
			if n, ok := who[s]; ok {
				atIs(t, x, s, n, api.OK)
			} else {
				atIs(t, x, s, "", api.ErrNone)
			}
			atIs(t, api.Topo{Switches: 6, Links: x.Links}, s, "", api.ErrNone)
		}
	}
}

func TestSpotsThatAreNone(t *testing.T) {
	for n := 1; n <= 6; n++ {
		x := api.Topo{Switches: n, Links: links(link(1, 1, n, 4)), Hosts: hosts(host("a", 1, 2))}
		for _, s := range wrongSpots(n) {
			peerIs(t, x, s, api.Spot{}, api.ErrRange)
			atIs(t, x, s, "", api.ErrRange)
			peerIs(t, api.Topo{Switches: n}, s, api.Spot{}, api.ErrRange)
			atIs(t, api.Topo{Switches: n}, s, "", api.ErrRange)
		}
	}
}

func TestWhere(t *testing.T) {
	x := world()
	whereIs(t, x, "a", spot(1, 4), api.OK)
	whereIs(t, x, "bbbbbb", spot(6, 4), api.OK)
	whereIs(t, x, "zaz", spot(4, 2), api.OK)
	for _, n := range []string{"", "b", "aa", "za", "zazz", "A", "a ", "bbbbb", "bbbbbbb", "\x00", "\xff", strings.Repeat("a", 5000)} {
		whereIs(t, x, n, api.Spot{}, api.ErrNone)
	}
	for _, n := range []string{"", "a"} {
		whereIs(t, api.Topo{Switches: 1}, n, api.Spot{}, api.ErrNone)
		whereIs(t, api.Topo{Switches: 6, Links: x.Links}, n, api.Spot{}, api.ErrNone)
	}
}

func TestNear(t *testing.T) {
	x := world()
	for a, want := range [][]int{1: {2, 3}, 2: {1, 3}, 3: {1, 2, 4}, 4: {3}, 5: {5}, 6: nil} {
		if a > 0 {
			nearIs(t, x, a, want, api.OK)
			nearIs(t, api.Topo{Switches: 6, Hosts: x.Hosts}, a, nil, api.OK)
		}
	}
	// Links in falling order, and with itself in between: told rising all the same.
	y := api.Topo{Switches: 6, Links: links(link(6, 1, 3, 1), link(3, 2, 3, 3), link(1, 1, 3, 4))}
	nearIs(t, y, 3, []int{1, 3, 6}, api.OK)
	twice := api.Topo{Switches: 2, Links: links(link(2, 1, 1, 1), link(1, 2, 2, 2), link(1, 3, 1, 4))}
	nearIs(t, twice, 1, []int{1, 2}, api.OK)
	nearIs(t, twice, 2, []int{1}, api.OK)
}

func TestFar(t *testing.T) {
	x := world()
	for a, row := range [][]int{{0, 1, 1, 2}, {1, 0, 1, 2}, {1, 1, 0, 1}, {2, 2, 1, 0}} {
		for b, want := range row {
			farIs(t, x, a+1, b+1, want, api.OK)
		}
		for _, b := range []int{5, 6} {
			farIs(t, x, a+1, b, 0, api.ErrNone)
			farIs(t, x, b, a+1, 0, api.ErrNone)
		}
	}
	for a := 1; a <= 6; a++ {
		farIs(t, x, a, a, 0, api.OK)
		farIs(t, api.Topo{Switches: 6}, a, a, 0, api.OK)
		farIs(t, api.Topo{Switches: 6, Hosts: x.Hosts}, a, a%6+1, 0, api.ErrNone)
	}
}

// TestFarOverTheShorterWay: in a ring it is told over the shorter side, however its links are laid and ordered.
func TestFarOverTheShorterWay(t *testing.T) {
	ring := api.Topo{Switches: 6, Links: links(link(4, 1, 3, 2), link(1, 2, 2, 1), link(6, 1, 5, 2),
		link(2, 2, 3, 1), link(1, 1, 6, 2), link(4, 2, 5, 1))}
	line := api.Topo{Switches: 6, Links: slices.Delete(slices.Clone(ring.Links), 4, 5)}
	for a := 1; a <= 6; a++ {
		for b := 1; b <= 6; b++ {
			n := max(a-b, b-a)
			farIs(t, line, a, b, n, api.OK)
			farIs(t, ring, a, b, min(n, 6-n), api.OK)
		}
	}
}

func TestSwitchesThatAreNone(t *testing.T) {
	for n := 1; n <= 6; n++ {
		x := api.Topo{Switches: n, Links: links(link(1, 1, n, 2)), Hosts: hosts(host("a", 1, 3))}
		for _, bad := range []int{0, -1, n + 1, 7, 100, math.MinInt, math.MaxInt} {
			nearIs(t, x, bad, nil, api.ErrRange)
			farIs(t, x, bad, bad, 0, api.ErrRange)
			farIs(t, x, bad, -2, 0, api.ErrRange)
			for a := 1; a <= n; a++ {
				farIs(t, x, bad, a, 0, api.ErrRange)
				farIs(t, x, a, bad, 0, api.ErrRange)
			}
		}
	}
}

// behind has more links and hosts behind its lengths, which would be told if they were read.
func behind(x api.Topo) (api.Topo, []api.Link, []api.Host) {
	l := append(slices.Clone(x.Links), link(1, 1, 6, 1), link(0, 0, 0, 0))
	h := append(slices.Clone(x.Hosts), host("behind", 6, 2), host("", 0, 0))
	x.Links, x.Hosts = l[:len(x.Links)], h[:len(x.Hosts)]
	return x, l, h
}

// TestWhatIsHandedInStays: the lists and what lies behind them are neither written nor read.
func TestWhatIsHandedInStays(t *testing.T) {
	wrong := world()
	wrong.Hosts = append(wrong.Hosts, host("a", 6, 3))
	for _, w := range []api.Topo{world(), wrong, {Switches: 6}, {Switches: 7}} {
		x, l, h := behind(w)
		wasLinks, wasHosts := slices.Clone(l), slices.Clone(h)
		fault := plain.Told(Check(w))
		checkIs(t, x, fault)
		whereIs(t, x, "behind", api.Spot{}, or(fault, api.ErrNone))
		atIs(t, x, spot(6, 2), "", or(fault, api.ErrNone))
		peerIs(t, x, spot(6, 1), api.Spot{}, or(fault, api.ErrNone))
		nearIs(t, x, 6, nil, fault)
		farIs(t, x, 1, 6, 0, or(fault, api.ErrNone))
		if !slices.Equal(l, wasLinks) || !slices.Equal(h, wasHosts) {
			t.Errorf("%v: what was handed in is %v, %v", w, l, h)
		}
	}
}

// or is the fault, or the second one where there is none.
func or(fault, second api.Errno) api.Errno {
	if fault != api.OK {
		return fault
	}
	return second
}

// TestAnswersAreFresh: what comes out may be written into, and holds nothing of what was handed in.
func TestAnswersAreFresh(t *testing.T) {
	x := world()
	l, _ := Near(x, 3)
	m, _ := Near(x, 3)
	for i := range l {
		l[i] = 9
	}
	if !slices.Equal(m, []int{1, 2, 4}) {
		t.Errorf("Near: two answers share memory: %v", m)
	}
	nearIs(t, x, 3, []int{1, 2, 4}, api.OK)
	n, _ := At(x, spot(6, 4))
	if n != "bbbbbb" || unsafe.StringData(n) == unsafe.StringData(x.Hosts[1].Name) {
		t.Errorf("At: the answer %q shares memory with the name that was handed in", n)
	}
}

// TestNothingIsKept: a call answers by its own topology, whatever was asked before.
func TestNothingIsKept(t *testing.T) {
	x, y := world(), api.Topo{Switches: 6, Links: links(link(1, 1, 6, 1)), Hosts: hosts(host("a", 2, 2))}
	for range 3 {
		peerIs(t, x, spot(1, 1), spot(2, 1), api.OK)
		peerIs(t, y, spot(1, 1), spot(6, 1), api.OK)
		whereIs(t, x, "a", spot(1, 4), api.OK)
		whereIs(t, y, "a", spot(2, 2), api.OK)
		atIs(t, y, spot(1, 4), "", api.ErrNone)
		nearIs(t, y, 1, []int{6}, api.OK)
		farIs(t, x, 1, 6, 0, api.ErrNone)
		farIs(t, y, 1, 6, 1, api.OK)
	}
}
