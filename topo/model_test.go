package topo

import (
	"math/rand"
	"testing"

	"railpoint/api"
	"railpoint/plain"
)

// someSpot is mostly one of n switches, and seldom none.
func someSpot(r *rand.Rand, n int) api.Spot {
	s := spot(r.Intn(n)+1, r.Intn(4)+1)
	switch r.Intn(120) {
	case 0:
		s.Switch = []int{0, n + 1, -3}[r.Intn(3)]
	case 1:
		s.Port = []int{0, 5, -3}[r.Intn(3)]
	}
	return s
}

func someName(r *rand.Rand) string {
	if r.Intn(60) == 0 {
		return []string{"", "A", "a b", "abcdefg", "{", "`"}[r.Intn(6)]
	}
	return []string{"a", "b", "c", "d", "e", "f", "abcdef", "zz", "zzz", "q", "r", "s"}[r.Intn(12)]
}

// free tells whether no link so far, and no host, has that spot.
func free(x api.Topo, s api.Spot) bool {
	for _, l := range x.Links {
		if l.A == s || l.B == s {
			return false
		}
	}
	for _, h := range x.Hosts {
		if h.At == s {
			return false
		}
	}
	return true
}

// someTopo mostly takes spots that are free yet, so that many are right.
func someTopo(r *rand.Rand) api.Topo {
	x := api.Topo{Switches: r.Intn(6) + 1}
	for range r.Intn(10) {
		a, b := someSpot(r, x.Switches), someSpot(r, x.Switches)
		if free(x, a) && free(x, b) && a != b || r.Intn(40) == 0 {
			x.Links = append(x.Links, api.Link{A: a, B: b})
		}
	}
	for range r.Intn(9) {
		h := api.Host{Name: someName(r), At: someSpot(r, x.Switches)}
		if free(x, h.At) && whose(x, h.Name) < 0 || r.Intn(20) == 0 {
			x.Hosts = append(x.Hosts, h)
		}
	}
	return x
}

// whose is the place of the host of that name, -1 if there is none.
func whose(x api.Topo, name string) int {
	for i, h := range x.Hosts {
		if h.Name == name {
			return i
		}
	}
	return -1
}

func right(x api.Topo, s api.Spot) bool {
	return 1 <= s.Switch && s.Switch <= x.Switches && 1 <= s.Port && s.Port <= 4
}

func spelt(name string) bool {
	for _, c := range name {
		if c < 'a' || c > 'z' {
			return false
		}
	}
	return len(name) >= 1 && len(name) <= 6
}

// fault finds what is wrong by hand, holding each thing against those ahead of it.
func fault(x api.Topo) api.Errno {
	so := api.Topo{Switches: x.Switches}
	for _, l := range x.Links {
		switch {
		case !right(x, l.A) || !right(x, l.B):
			return api.ErrRange
		case !free(so, l.A) || !free(so, l.B) || l.A == l.B:
			return api.ErrClash
		}
		so.Links = append(so.Links, l)
	}
	for _, h := range x.Hosts {
		switch {
		case !spelt(h.Name):
			return api.ErrSyntax
		case !right(x, h.At):
			return api.ErrRange
		case whose(so, h.Name) >= 0 || !free(so, h.At):
			return api.ErrClash
		}
		so.Hosts = append(so.Hosts, h)
	}
	return api.OK
}

// hops has for each two switches over how many links one comes at least, 99 if not at all.
func hops(x api.Topo) (d [7][7]int) {
	for a := range d {
		for b := range d {
			if a != b {
				d[a][b] = 99
			}
		}
	}
	for _, l := range x.Links {
		if l.A.Switch != l.B.Switch {
			d[l.A.Switch][l.B.Switch], d[l.B.Switch][l.A.Switch] = 1, 1
		}
	}
	for c := range d {
		for a := range d {
			for b := range d {
				d[a][b] = min(d[a][b], d[a][c]+d[c][b])
			}
		}
	}
	return d
}

// holdSpots holds Peer, At and Where against the lists themselves.
func holdSpots(t *testing.T, x api.Topo) {
	for a := 1; a <= x.Switches; a++ {
		for p := 1; p <= 4; p++ {
			s := spot(a, p)
			peer, who := api.ErrNone, api.ErrNone
			var other api.Spot
			var name string
			for _, l := range x.Links {
				if l.A == s {
					peer, other = api.OK, l.B
				} else if l.B == s {
					peer, other = api.OK, l.A
				}
			}
			for _, h := range x.Hosts {
				if h.At == s {
					who, name = api.OK, h.Name
				}
			}
			peerIs(t, x, s, other, peer)
			atIs(t, x, s, name, who)
		}
	}
	for _, n := range []string{"a", "b", "abcdef", "zz", "q", "", "A"} {
		if i := whose(x, n); i >= 0 {
			whereIs(t, x, n, x.Hosts[i].At, api.OK)
		} else {
			whereIs(t, x, n, api.Spot{}, api.ErrNone)
		}
	}
}

// holdSwitches holds Near and Far against what a table of all ways says.
func holdSwitches(t *testing.T, x api.Topo) (apart, most int) {
	d := hops(x)
	for a := 1; a <= x.Switches; a++ {
		var beside []int
		for b := 1; b <= x.Switches; b++ {
			joined := a != b && d[a][b] == 1
			for _, l := range x.Links {
				joined = joined || a == b && l.A.Switch == a && l.B.Switch == a
			}
			if joined {
				beside = append(beside, b)
			}
			if d[a][b] >= 99 {
				apart++
				farIs(t, x, a, b, 0, api.ErrNone)
			} else {
				most = max(most, d[a][b])
				farIs(t, x, a, b, d[a][b], api.OK)
			}
		}
		nearIs(t, x, a, beside, api.OK)
	}
	return apart, most
}

func TestItIsAsByHand(t *testing.T) {
	r := rand.New(rand.NewSource(17))
	seen, apart, most := [10]int{}, 0, [7]int{}
	for range 20000 {
		x := someTopo(r)
		want := fault(x)
		seen[want]++
		if got := plain.Told(Check(x)); got != want {
			t.Fatalf("Check(%v): %v, want %v", x, got, want)
		}
		if want != api.OK {
			continue
		}
		holdSpots(t, x)
		n, m := holdSwitches(t, x)
		apart += n
		most[m]++
		if t.Failed() {
			t.FailNow()
		}
	}
	for _, e := range []api.Errno{api.OK, api.ErrRange, api.ErrSyntax, api.ErrClash} {
		if seen[e] < 500 {
			t.Errorf("%v came %d times only", e, seen[e])
		}
	}
	for n := range 6 {
		if most[n] < 20 || apart < 500 {
			t.Errorf("%d links at most came %d times only, none at all %d times", n, most[n], apart)
		}
	}
}
