package field

import (
	"math/rand"
	"testing"

	"railpoint/api"
	"railpoint/change"
	"railpoint/plan"
	"railpoint/topo"
	"railpoint/wish"
)

// ring is four switches round which packets may go either way, with a link across, and three hosts.
func ring() api.Topo {
	return api.Topo{
		Switches: 4,
		Links: []api.Link{
			{A: at(1, 1), B: at(2, 2)}, {A: at(2, 1), B: at(3, 2)}, {A: at(3, 1), B: at(4, 2)}, {A: at(4, 1), B: at(1, 2)}, {A: at(1, 3), B: at(3, 3)},
		},
		Hosts: []api.Host{{Name: "ann", At: at(1, 4)}, {Name: "bob", At: at(2, 4)}, {Name: "cid", At: at(3, 4)}},
	}
}

// guided is the ring with tables by which both halves of the headers come from one host to another one, each round by
// a random way: only the switches on it have a rule for them.
func guided(r *rand.Rand, from, to api.Host) api.Net {
	n := api.Net{Topo: ring(), Tables: make([]api.Table, 4)}
	for half := range 2 {
		onWay := some(10+half, 8, 8*half, to.At.Port)
		outs := map[int]int{to.At.Switch: to.At.Port} // by switch, from the last one on
		for outs[from.At.Switch] == 0 {
			l := n.Topo.Links[r.Intn(5)]
			if r.Intn(2) == 0 {
				l.A, l.B = l.B, l.A
			}
			if outs[l.B.Switch] > 0 && outs[l.A.Switch] == 0 {
				outs[l.A.Switch] = l.A.Port
			}
		}
		for a := from.At.Switch; a > 0; a = next(n.Topo, at(a, outs[a])) {
			onWay.Out = outs[a]
			n.Tables[a-1] = append(n.Tables[a-1], onWay)
		}
	}
	return n
}

// next is the switch at the other end of a link, 0 if none is there.
func next(t api.Topo, out api.Spot) int {
	peer, _ := topo.Peer(t, out)
	return peer.Switch
}

// commons has wishes that hold in both nets.
func commons(r *rand.Rand, a, b api.Net) (l []api.Wish) {
	all := []api.Wish{{What: api.Loops}}
	for _, from := range []string{"ann", "bob", "cid"} {
		for _, to := range []string{"ann", "bob", "cid"} {
			all = append(all, api.Wish{What: api.Reach, From: from, To: to}, api.Wish{What: api.Apart, From: from, To: to})
			for via := 1; via <= 4; via++ {
				all = append(all, api.Wish{What: api.Way, From: from, To: to, Via: via})
			}
		}
	}
	for _, i := range r.Perm(len(all)) {
		_, one := wish.Holds(a, all[i:i+1])
		_, other := wish.Holds(b, all[i:i+1])
		if one == nil && other == nil && len(l) < 3 {
			l = append(l, all[i])
		}
	}
	return l
}

// wild has something happen that may, with no thought of what would be good: packets may be slow.
func wild(r *rand.Rand, f *Field, slow int) api.Event {
	k := r.Intn(20)
	if k > 14 && r.Intn(slow) > 0 {
		k = r.Intn(12)
	}
	switch {
	case k < 7:
		return deliver(r.Intn(f.Under() + 1))
	case k == 7:
		return lose(r.Intn(f.Under() + 1))
	case k == 8:
		return twice(r.Intn(f.Under() + 1))
	case k < 12:
		return work(1 + r.Intn(4))
	case k == 12:
		return tick()
	case k < 15 && f.Packets() < 6:
		return send(r.Intn(3), r.Intn(16))
	}
	return move(r.Intn(f.Packets() + 1))
}

func fits(t *testing.T, wishes []api.Wish, from string, x api.Fate) {
	t.Helper()
	for _, w := range wishes {
		if !wish.Fits(w, from, x) {
			t.Errorf("%v of %s does not fit %v", x, from, w)
		}
	}
}

// TestNoPacketGoesAstray: whatever becomes of messages, by rounds that were planned each packet fits each wish, also
// those that are under way while one round follows another one, and it comes to what was wanted.
func TestNoPacketGoesAstray(t *testing.T) {
	r := rand.New(rand.NewSource(61))
	var count struct{ held, ended, several, wishes int }
	for i := range 500 {
		hosts := r.Perm(3)
		from, to := ring().Hosts[hosts[0]], ring().Hosts[hosts[1]]
		a, b := guided(r, from, to), guided(r, from, to)
		wishes := append([]api.Wish{{What: api.Reach, From: from.Name, To: to.Name}}, commons(r, a, b)...)
		deck, err := plan.Plan(a, b, wishes)
		if err != nil {
			continue
		}
		f := fresh(t, a, 1+r.Intn(8), deck...)
		for n := 0; (!f.Done() || f.Packets() > 0) && n < 50_000; n++ {
			f.Do(wild(r, f, 1+i%5))
			if f.drive.Left() == nil && !f.Done() {
				count.held++
			}
		}
		if same, err := change.Same(f.Net(), b); !f.Done() || !same || err != nil {
			t.Fatalf("%d rounds were said, of %v, and it is %v, want %v", f.Rounds(), deck, f.Net(), b)
		}
		froms := f.Froms()
		for k, x := range f.Fates() {
			fits(t, wishes, froms[k], x)
			count.ended++
		}
		if len(deck) > 1 {
			count.several++
		}
		count.wishes += len(wishes)
	}
	if count.held < 10_000 || count.ended < 10_000 || count.several < 100 || count.wishes < 1000 {
		t.Errorf("too little was seen: %+v", count)
	}
}

// TestThePacketOnTheOldWay: it has left 1 by the old table, and 2 drops what comes in once nobody sends to it any more.
func TestThePacketOnTheOldWay(t *testing.T) {
	a := api.Net{Topo: ring(), Tables: []api.Table{{all(10, 1)}, {all(10, 1)}, {all(10, 4)}, nil}}
	b := with(a, api.Table{all(10, 3)}, nil, api.Table{all(10, 4)}, nil)
	reach := []api.Wish{{What: api.Reach, From: "ann", To: "cid"}}
	deck, err := plan.Plan(a, b, reach)
	if err != nil || len(deck) != 2 {
		t.Fatalf("planned is %v, %v", deck, err)
	}
	f := fresh(t, a, 1, deck...)
	does(t, f, send(0, 5), move(0), deliver(0), deliver(0), deliver(0), work(1), deliver(0))
	for range 5 {
		stands(t, f, 0, 1, 1, false)
		does(t, f, tick())
		refuses(t, f, work(2), api.ErrState)
	}
	does(t, f, move(0))
	stands(t, f, 0, 1, 1, false)
	does(t, f, send(0, 6), move(0))
	stands(t, f, 2, 1, 2, false)
	does(t, f, deliver(0), deliver(0), work(2), move(0), move(0), deliver(0))
	stands(t, f, 0, 0, 2, true)
	endsAre(t, f, ended("ann", 1, "cid", hop(1, 4, 5), hop(2, 2, 5), hop(3, 2, 5)), ended("ann", 1, "cid", hop(1, 4, 6), hop(3, 3, 6)))
	for i, x := range f.Fates() {
		fits(t, reach, f.Froms()[i], x)
	}
}
