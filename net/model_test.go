package net

import (
	"math/rand"
	"testing"

	"railpoint/api"
)

// someNet is right: a few switches, joined at random, with rules that mostly send on.
func someNet(r *rand.Rand) api.Net {
	n := api.Net{Topo: api.Topo{Switches: r.Intn(4) + 1}}
	var free []api.Spot
	for a := 1; a <= n.Topo.Switches; a++ {
		for p := 1; p <= 4; p++ {
			free = append(free, spot(a, p))
		}
		n.Tables = append(n.Tables, someTable(r))
	}
	r.Shuffle(len(free), func(i, j int) { free[i], free[j] = free[j], free[i] })
	for range r.Intn(3) {
		n.Topo.Hosts = append(n.Topo.Hosts, api.Host{Name: string(rune('a' + len(n.Topo.Hosts))), At: free[0]})
		free = free[1:]
	}
	for r.Intn(12) > 0 && len(free) > 1 {
		n.Topo.Links = append(n.Topo.Links, api.Link{A: free[0], B: free[1]})
		free = free[2:]
	}
	return n
}

// someTable has rules of one Prio each, so that none clashes, and often ones that count for all headers that are left.
func someTable(r *rand.Rand) api.Table {
	var t api.Table
	for _, i := range r.Perm(r.Intn(13)) {
		x := api.Rule{Prio: i, Out: r.Intn(4) + 1, Set: r.Intn(16) & r.Intn(16)}
		x.Cube.Mask = r.Intn(16)
		x.Cube.Bits = r.Intn(16) & x.Cube.Mask
		x.Value = r.Intn(16) & x.Set
		if r.Intn(12) == 0 {
			x.Out, x.Set, x.Value = 0, 0, 0
		}
		t = append(t, x)
	}
	return t
}

// moved finds by hand where a packet goes out; port 0 if it does not.
func moved(n api.Net, in api.Hop) api.Hop {
	var best *api.Rule
	for i := range n.Tables[in.At.Switch-1] {
		x := &n.Tables[in.At.Switch-1][i]
		if in.Header&x.Cube.Mask == x.Cube.Bits && (best == nil || x.Prio > best.Prio) {
			best = x
		}
	}
	if best == nil || best.Out == 0 {
		return api.Hop{}
	}
	out := api.Hop{At: spot(in.At.Switch, best.Out)}
	for b := 1; b < 16; b *= 2 {
		if best.Set&b != 0 {
			out.Header |= best.Value & b
		} else {
			out.Header |= in.Header & b
		}
	}
	return out
}

// byHand finds what becomes of a packet, a hop after the other.
func byHand(n api.Net, in api.Hop) api.Fate {
	f := api.Fate{How: api.Looped}
	been := map[api.Hop]bool{}
	for !been[in] && len(f.Hops) < 24 {
		been[in] = true
		f.Hops = append(f.Hops, in)
		out := moved(n, in)
		if out.At.Port == 0 {
			f.How = api.Dropped
			return f
		}
		for _, h := range n.Topo.Hosts {
			if h.At == out.At {
				f.How, f.Host = api.Arrived, h.Name
				return f
			}
		}
		joined := false
		for _, l := range n.Topo.Links {
			if l.A == out.At {
				in, joined = api.Hop{At: l.B, Header: out.Header}, true
			} else if l.B == out.At {
				in, joined = api.Hop{At: l.A, Header: out.Header}, true
			}
		}
		if !joined {
			f.How = api.Lost
			return f
		}
	}
	return f
}

// holdPacket holds Step and From against what is found by hand.
func holdPacket(t *testing.T, n api.Net, in api.Hop) api.Fate {
	out, fault := moved(n, in), api.OK
	if out.At.Port == 0 {
		fault = api.ErrNone
	}
	stepIs(t, n, in.At, in.Header, out.At, out.Header, fault)
	f := byHand(n, in)
	fromIs(t, n, in.At, in.Header, f, api.OK)
	for _, h := range n.Topo.Hosts {
		if h.At == in.At {
			sendIs(t, n, h.Name, in.Header, f, api.OK)
		}
	}
	return f
}

func TestItIsAsByHand(t *testing.T) {
	r := rand.New(rand.NewSource(20))
	hows, long := [5]int{}, [25]int{}
	for range 3000 {
		n := someNet(r)
		checkIs(t, n, api.OK)
		for range 30 {
			in := api.Hop{At: spot(r.Intn(n.Topo.Switches)+1, r.Intn(4)+1), Header: r.Intn(16)}
			f := holdPacket(t, n, in)
			hows[f.How]++
			long[len(f.Hops)]++
		}
		if t.Failed() {
			t.FailNow()
		}
	}
	for how, times := range hows {
		if how > 0 && times < 2000 {
			t.Errorf("the end %d came %d times only", how, times)
		}
	}
	for n := 1; n <= 7; n++ {
		if long[n] < 100 {
			t.Errorf("%d hops came %d times only", n, long[n])
		}
	}
}
