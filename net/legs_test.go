package net

import (
	"math/rand"
	"testing"

	"railpoint/api"
)

// TestLegsAreStepByStep: a packet that goes leg by leg comes to what From tells of it, whatever the port it comes in at.
func TestLegsAreStepByStep(t *testing.T) {
	r := rand.New(rand.NewSource(66))
	for range 300 {
		n := someNet(r)
		legs := Legs(n)
		if len(legs) != n.Topo.Switches {
			t.Fatalf("%d switches have %d rows of legs", n.Topo.Switches, len(legs))
		}
		for a := 1; a <= n.Topo.Switches; a++ {
			for header := range 16 {
				in := api.Hop{At: spot(a, r.Intn(4)+1), Header: header}
				f := api.Fate{Hops: []api.Hop{in}}
				for f.How == 0 {
					l := legs[in.At.Switch-1][in.Header].After(f.Hops)
					if f.How, f.Host, in = l.How, l.Host, l.Next; f.How == 0 {
						f.Hops = append(f.Hops, in)
					}
				}
				endsAs(t, n, f)
			}
		}
	}
}

// TestLegsThatEndStay: hops of the packet matter only to where it would come in.
func TestLegsThatEndStay(t *testing.T) {
	been := hops(1, 1, 3, 2, 1, 3)
	for _, l := range []Leg{{How: api.Arrived, Host: "ann"}, {How: api.Dropped}, {How: api.Lost}, {Next: been[0]}, {Next: hops(1, 1, 4)[0]}} {
		if got := l.After(nil); got != l {
			t.Errorf("%v ahead of all hops: %v", l, got)
		}
		want := l
		if l.Next == been[0] {
			want = Leg{How: api.Looped}
		}
		if got := l.After(been); got != want {
			t.Errorf("%v behind %v: %v, want %v", l, been, got, want)
		}
	}
}

// TestLegOfOne: that of one packet is the one that Legs has for its switch and header.
func TestLegOfOne(t *testing.T) {
	r := rand.New(rand.NewSource(67))
	for range 100 {
		n := someNet(r)
		for i, legs := range Legs(n) {
			for header, want := range legs {
				in := api.Hop{At: spot(i+1, r.Intn(4)+1), Header: header}
				if got := LegOf(n, in); got != want {
					t.Errorf("LegOf(%v, %v): %v, want %v", n, in, got, want)
				}
			}
		}
	}
}
