package wish

import (
	"math/rand"
	"testing"

	"railpoint/api"
	"railpoint/net"
	"railpoint/plain"
)

// someNet is right: a few switches, joined at random, with hosts, and rules that mostly send on.
func someNet(r *rand.Rand) api.Net {
	n := api.Net{Topo: api.Topo{Switches: r.Intn(4) + 1}}
	var free []api.Spot
	for a := 1; a <= n.Topo.Switches; a++ {
		for p := 1; p <= 4; p++ {
			free = append(free, spot(a, p))
		}
		n.Tables = append(n.Tables, someTable(r))
	}
	r.Shuffle(len(free), func(i, j int) { free[i], free[j] = free[j], free[i] })
	names := r.Perm(26)
	for range r.Intn(4) {
		n.Topo.Hosts = append(n.Topo.Hosts, api.Host{Name: string(rune('a' + names[len(n.Topo.Hosts)])), At: free[0]})
		free = free[1:]
	}
	for r.Intn(12) > 0 && len(free) > 1 {
		n.Topo.Links = append(n.Topo.Links, api.Link{A: free[0], B: free[1]})
		free = free[2:]
	}
	return n
}

// someTable has rules of one Prio each, so that none clashes; the fewer there are, the more headers go alike.
func someTable(r *rand.Rand) api.Table {
	var t api.Table
	for _, i := range r.Perm(r.Intn(5)) {
		x := api.Rule{Prio: i, Out: r.Intn(4) + 1, Set: r.Intn(16) & r.Intn(16) & r.Intn(16)}
		x.Cube.Mask = r.Intn(16) & r.Intn(16)
		x.Cube.Bits = r.Intn(16) & x.Cube.Mask
		x.Value = r.Intn(16) & x.Set
		if r.Intn(12) == 0 {
			x.Out, x.Set, x.Value = 0, 0, 0
		}
		t = append(t, x)
	}
	return t
}

// someWish is right, but now and then.
func someWish(r *rand.Rand, x api.Topo) api.Wish {
	if len(x.Hosts) == 0 || r.Intn(4) == 0 {
		return loops()
	}
	w := api.Wish{What: r.Intn(3) + 1, From: x.Hosts[r.Intn(len(x.Hosts))].Name, To: x.Hosts[r.Intn(len(x.Hosts))].Name}
	if w.What == api.Way {
		w.Via = r.Intn(x.Switches) + 1
	}
	switch r.Intn(60) {
	case 0:
		w.What = r.Intn(7) - 1
	case 1:
		w.Via = r.Intn(9) - 1
	case 2:
		w.From = ""
	case 3:
		w.To = "Z"
	}
	return w
}

// faultByHand of one wish, in the words of the chapter.
func faultByHand(x api.Topo, w api.Wish) api.Errno {
	known := map[string]bool{}
	for _, h := range x.Hosts {
		known[h.Name] = true
	}
	switch w.What {
	case api.Reach, api.Apart:
		if w.Via != 0 {
			return api.ErrRange
		}
	case api.Way:
		if w.Via < 1 || w.Via > x.Switches {
			return api.ErrRange
		}
	case api.Loops:
		if w.Via != 0 {
			return api.ErrRange
		}
		if w.From != "" || w.To != "" {
			return api.ErrShape
		}
		return api.OK
	default:
		return api.ErrRange
	}
	if !known[w.From] || !known[w.To] {
		return api.ErrNone
	}
	return api.OK
}

// brokenByHand tells whether a header of a host shows that a wish does not hold.
func brokenByHand(n api.Net, w api.Wish, who string, header int) bool {
	f, err := net.Send(n, who, header)
	if err != nil {
		panic(err)
	}
	if w.What == api.Loops {
		return f.How == api.Looped
	}
	if w.From != who {
		return false
	}
	if f.How != api.Arrived || f.Host != w.To {
		return w.What == api.Reach
	}
	been := map[int]bool{}
	for _, h := range f.Hops {
		been[h.At.Switch] = true
	}
	return w.What == api.Apart || w.What == api.Way && !been[w.Via]
}

// proofByHand has what Holds is to answer.
func proofByHand(n api.Net, l []api.Wish) (api.Proof, api.Errno) {
	if len(l) > 8 {
		return api.Proof{}, api.ErrFull
	}
	for _, w := range l {
		if fault := faultByHand(n.Topo, w); fault != api.OK {
			return api.Proof{}, fault
		}
	}
	for i, w := range l {
		for _, h := range n.Topo.Hosts {
			for header := range 16 {
				if brokenByHand(n, w, h.Name, header) {
					return api.Proof{Wish: i, From: h.Name, Header: header}, api.ErrBroken
				}
			}
		}
	}
	return api.Proof{}, api.OK
}

// TestItIsAsByHand: and each answer comes often enough to tell something.
func TestItIsAsByHand(t *testing.T) {
	r := rand.New(rand.NewSource(8))
	told, broken, held := map[api.Errno]int{}, map[int]int{}, map[int]int{}
	for range 20000 {
		n := someNet(r)
		var l []api.Wish
		for range r.Intn(10) {
			l = append(l, someWish(r, n.Topo))
		}
		want, fault := proofByHand(n, l)
		told[fault]++
		holdsIs(t, n, l, want, fault)
		if fault == api.ErrBroken {
			broken[l[want.Wish].What]++
			checkIs(t, n.Topo, l, api.OK)
		} else {
			checkIs(t, n.Topo, l, fault)
		}
		if fault == api.OK {
			for _, w := range l {
				held[w.What]++
			}
		}
		if t.Failed() {
			t.FailNow()
		}
	}
	for _, fault := range []api.Errno{api.OK, api.ErrRange, api.ErrFull, api.ErrNone, api.ErrBroken} {
		if told[fault] < 100 {
			t.Errorf("%v came %d times only", fault, told[fault])
		}
	}
	for what := api.Reach; what <= api.Loops; what++ {
		if broken[what] < 50 || held[what] < 50 {
			t.Errorf("wishes of kind %d broke %d times, held %d times", what, broken[what], held[what])
		}
	}
}

// TestAProofProves: what it says is sent breaks its wish; where there is none, all that may be sent fits.
func TestAProofProves(t *testing.T) {
	r := rand.New(rand.NewSource(80))
	for range 5000 {
		n := someNet(r)
		w := someWish(r, n.Topo)
		p, err := Holds(n, wishes(w))
		if plain.Told(err) == api.ErrBroken {
			if f, err := net.Send(n, p.From, p.Header); err != nil || Fits(w, p.From, f) {
				t.Errorf("%v of %v in %v is no proof: %v, %v", p, w, n, f, err)
			}
			continue
		}
		if err != nil {
			continue
		}
		for _, h := range n.Topo.Hosts {
			for header := range 16 {
				if f, err := net.Send(n, h.Name, header); err != nil || !Fits(w, h.Name, f) {
					t.Errorf("%v does not hold in %v: %s sends %d: %v, %v", w, n, h.Name, header, f, err)
				}
			}
		}
	}
}
