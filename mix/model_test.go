package mix

import (
	"fmt"
	"math/rand"
	"slices"
	"testing"

	"railpoint/api"
	"railpoint/change"
	"railpoint/plain"
	"railpoint/wish"
)

// someTopo is right: most ports are joined, and there are a few hosts.
func someTopo(r *rand.Rand, switches int) api.Topo {
	x := api.Topo{Switches: switches}
	var free []api.Spot
	for a := 1; a <= switches; a++ {
		for p := 1; p <= 4; p++ {
			free = append(free, spot(a, p))
		}
	}
	r.Shuffle(len(free), func(i, j int) { free[i], free[j] = free[j], free[i] })
	letters := r.Perm(26)
	for range r.Intn(3) + 1 {
		x.Hosts = append(x.Hosts, api.Host{Name: string(rune('a' + letters[len(x.Hosts)])), At: free[0]})
		free = free[1:]
	}
	for r.Intn(20) > 0 && len(free) > 1 {
		x.Links = append(x.Links, api.Link{A: free[0], B: free[1]})
		free = free[2:]
	}
	return x
}

// someNet is right, with at most so many rules at a switch, that mostly send on.
func someNet(r *rand.Rand, switches, rules int) api.Net {
	n := api.Net{Topo: someTopo(r, switches)}
	for range switches {
		var t api.Table
		for range r.Intn(rules) + 1 {
			t = append(t, someRule(r, t))
		}
		n.Tables = append(n.Tables, t)
	}
	return n
}

// someCounter is a net in which each switch counts the header up, and has another way for it the more often that is
// so: packets go on for long. Its Ops send some of them on otherwise.
func someCounter(r *rand.Rand, switches int) (api.Net, []api.Op, []api.Table) {
	n := api.Net{Topo: someTopo(r, switches)}
	var l []api.Op
	var behind []api.Table
	for a := 1; a <= switches; a++ {
		old := tab("1 ***0 out 1 set ***1", "1 **01 out 1 set **10", "1 *011 out 1 set *100", "1 0111 out 1 set 1000", "1 1111 out 1 set 0000")
		for i := range old {
			old[i].Out = r.Intn(4) + 1
		}
		young := slices.Clone(old)
		for i := range young {
			if r.Intn(3) == 0 {
				young[i].Out = r.Intn(4) + 1
				l = append(l, api.Op{Switch: a, Rule: old[i]}, api.Op{Switch: a, Add: true, Rule: young[i]})
			}
		}
		n.Tables, behind = append(n.Tables, old), append(behind, young)
	}
	return n, l, behind
}

// someEven is a net in which each switch does one thing with all headers, and Ops by which some do another one.
func someEven(r *rand.Rand, switches int) (api.Net, []api.Op, []api.Table) {
	n := api.Net{Topo: someTopo(r, switches)}
	var l []api.Op
	var behind []api.Table
	for a := 1; a <= switches; a++ {
		t := api.Table{{Prio: 10, Out: r.Intn(5)}}
		n.Tables = append(n.Tables, t)
		if r.Intn(3) > 0 {
			x := api.Rule{Prio: 99, Out: r.Intn(5)}
			l = append(l, api.Op{Switch: a, Add: true, Rule: x})
			t = slices.Concat(t, api.Table{x})
		}
		behind = append(behind, t)
	}
	return n, l, behind
}

// someRule is right, mostly of many headers, and clashes with none of a table.
func someRule(r *rand.Rand, t api.Table) api.Rule {
	for {
		x := api.Rule{Prio: r.Intn(30), Out: r.Intn(4) + 1, Set: r.Intn(16) & r.Intn(16)}
		x.Cube.Mask = r.Intn(16)
		if r.Intn(4) == 0 {
			x.Cube.Mask = 0
		}
		x.Cube.Bits = r.Intn(16) & x.Cube.Mask
		x.Value = r.Intn(16) & x.Set
		if r.Intn(20) == 0 {
			x.Out, x.Set, x.Value = 0, 0, 0
		}
		if !slices.ContainsFunc(t, func(o api.Rule) bool { return o.Prio == x.Prio && o.Cube == x.Cube }) {
			return x
		}
	}
}

// someOps has Ops of at most so many switches that can be done, but now and then; and the tables behind them all.
func someOps(r *rand.Rand, n api.Net, switches int) ([]api.Op, []api.Table) {
	tables := slices.Clone(n.Tables)
	touched := r.Perm(n.Topo.Switches)[:min(switches, n.Topo.Switches)]
	var l []api.Op
	for range r.Intn(4 * switches) {
		i := touched[r.Intn(len(touched))]
		if t := tables[i]; len(t) > 0 && r.Intn(2) == 0 {
			place := r.Intn(len(t))
			l = append(l, api.Op{Switch: i + 1, Rule: t[place]})
			tables[i] = slices.Concat(t[:place], t[place+1:])
		} else if len(t) < 12 {
			x := someRule(r, t)
			l = append(l, api.Op{Switch: i + 1, Add: true, Rule: x})
			tables[i] = slices.Concat(t, api.Table{x})
		}
	}
	switch r.Intn(80) {
	case 0:
		l = append(l, api.Op{Switch: r.Intn(2) * 7, Add: r.Intn(2) == 0, Rule: someRule(r, nil)})
	case 1:
		l = append(l, take(1, "99 **** drop"))
	}
	return l, tables
}

// someWishes are right, but now and then.
func someWishes(r *rand.Rand, x api.Topo) []api.Wish {
	var l []api.Wish
	for range r.Intn(4) {
		w := api.Wish{What: r.Intn(4) + 1, From: x.Hosts[r.Intn(len(x.Hosts))].Name, To: x.Hosts[r.Intn(len(x.Hosts))].Name}
		switch w.What {
		case api.Way:
			w.Via = r.Intn(x.Switches) + 1
		case api.Loops:
			w = loops()
		}
		if r.Intn(80) == 0 {
			w.Via = 7
		}
		l = append(l, w)
	}
	return l
}

// moved finds by hand where a packet goes out by a table; port 0 if it does not.
func moved(t api.Table, in api.Hop) api.Hop {
	rank := func(x api.Rule) int { return x.Prio<<8 | x.Cube.Mask<<4 | x.Cube.Bits }
	best := api.Rule{Prio: -1}
	for _, x := range t {
		if in.Header&x.Cube.Mask == x.Cube.Bits && rank(x) > rank(best) {
			best = x
		}
	}
	if best.Out == 0 {
		return api.Hop{}
	}
	return api.Hop{At: spot(in.At.Switch, best.Out), Header: in.Header&^best.Set | best.Value}
}

// reached finds by hand what is where a packet went out: how it ends there, at which host, or where it comes in.
func reached(n api.Topo, out api.Hop) (int, string, api.Hop) {
	if out.At.Port == 0 {
		return api.Dropped, "", api.Hop{}
	}
	for _, h := range n.Hosts {
		if h.At == out.At {
			return api.Arrived, h.Name, api.Hop{}
		}
	}
	for _, l := range n.Links {
		if l.A == out.At {
			return 0, "", api.Hop{At: l.B, Header: out.Header}
		}
		if l.B == out.At {
			return 0, "", api.Hop{At: l.A, Header: out.Header}
		}
	}
	return api.Lost, "", api.Hop{}
}

// story has a way that a packet may go: of each hop it is asked which table it meets there.
func story(n api.Topo, in api.Hop, meets func(hop int, at api.Spot) api.Table) api.Fate {
	f := api.Fate{Hops: []api.Hop{in}}
	been := map[api.Hop]int{in: 1}
	for f.How == 0 {
		var next api.Hop
		f.How, f.Host, next = reached(n, moved(meets(len(f.Hops)-1, in.At), in))
		if f.How != 0 {
			break
		}
		been[next]++
		if been[next] > 1 || len(f.Hops) == 24 {
			f.How = api.Looped
			break
		}
		in = next
		f.Hops = append(f.Hops, in)
	}
	return f
}

// inOrder has fates each once, in the order of the chapter: written out so that it is the order of the texts.
func inOrder(all []api.Fate) []api.Fate {
	byText := map[string]api.Fate{}
	var texts []string
	for _, f := range all {
		s := fmt.Sprintf("%d%-6s", f.How, f.Host)
		for _, h := range f.Hops {
			s += fmt.Sprintf(" %d%d%02d", h.At.Switch, h.At.Port, h.Header)
		}
		if _, ok := byText[s]; !ok {
			texts = append(texts, s)
		}
		byText[s] = f
	}
	slices.Sort(texts)
	var out []api.Fate
	for _, s := range texts {
		out = append(out, byText[s])
	}
	return out
}

// byTimes has what may be seen: each switch changes ahead of some hop of the packet, the 25th meaning never, and
// all such times are gone through.
func byTimes(n api.Net, behind []api.Table, in api.Hop, touched []int) []api.Fate {
	var all []api.Fate
	times := make([]int, 7)
	var choose func(left []int)
	choose = func(left []int) {
		if len(left) > 0 {
			for times[left[0]] = range 25 {
				choose(left[1:])
			}
			return
		}
		all = append(all, story(n.Topo, in, func(hop int, at api.Spot) api.Table {
			if slices.Contains(touched, at.Switch) && hop >= times[at.Switch] {
				return behind[at.Switch-1]
			}
			return n.Tables[at.Switch-1]
		}))
	}
	choose(touched)
	return inOrder(all)
}

// byChoices has what may be seen: each row of choices, old or new at each hop that leaves one, is gone through.
// Who forgets may meet the old table of a switch behind the new one.
func byChoices(n api.Net, behind []api.Table, in api.Hop, forgets bool) []api.Fate {
	var all []api.Fate
	var row []bool
	for {
		asked := 0
		met := map[int]int{}
		all = append(all, story(n.Topo, in, func(_ int, at api.Spot) api.Table {
			i := at.Switch - 1
			if slices.Equal(n.Tables[i], behind[i]) {
				return n.Tables[i]
			}
			if met[i] == 0 || forgets {
				if asked == len(row) {
					row = append(row, false)
				}
				asked++
				if !row[asked-1] {
					return n.Tables[i]
				}
			}
			met[i]++
			return behind[i]
		}))
		// The last choice that was old is new the next time, with none chosen behind it.
		for len(row) > 0 && row[len(row)-1] {
			row = row[:len(row)-1]
		}
		if len(row) == 0 {
			return inOrder(all)
		}
		row[len(row)-1] = true
	}
}

// brokenByHand tells whether what becomes of a packet breaks a wish.
func brokenByHand(w api.Wish, from string, f api.Fate) bool {
	if w.What == api.Loops {
		return f.How == api.Looped
	}
	if w.From != from {
		return false
	}
	if f.How != api.Arrived || f.Host != w.To {
		return w.What == api.Reach
	}
	been := map[int]bool{}
	for _, h := range f.Hops {
		been[h.At.Switch] = true
	}
	return w.What == api.Apart || w.What == api.Way && !been[w.Via]
}

// proofByHand has what Safe is to answer of right wishes, from what may be seen of each host and header.
func proofByHand(x api.Topo, w []api.Wish, seen func(h api.Host, header int) []api.Fate) (api.Proof, api.Errno) {
	for i := range w {
		for _, h := range x.Hosts {
			for header := range 16 {
				for _, f := range seen(h, header) {
					if brokenByHand(w[i], h.Name, f) {
						return api.Proof{Wish: i, From: h.Name, Header: header}, api.ErrBroken
					}
				}
			}
		}
	}
	return api.Proof{}, api.OK
}

// TestSeenByTimes: it is what may be, whenever the switches change.
func TestSeenByTimes(t *testing.T) {
	r := rand.New(rand.NewSource(10))
	several := 0
	for i := range 1500 {
		n := someNet(r, r.Intn(4)+1, 8)
		most := 2
		if i%50 == 0 {
			most = 3
		}
		l, behind := someOps(r, n, most)
		if change.Check(n, l) != nil {
			continue
		}
		touched := Touched(l)
		h, header := n.Topo.Hosts[r.Intn(len(n.Topo.Hosts))], r.Intn(16)
		want := byTimes(n, behind, api.Hop{At: h.At, Header: header}, touched)
		seenAre(t, n, l, h.Name, header, want...)
		if len(want) > 2 {
			several++
		}
		if t.Failed() {
			t.FailNow()
		}
	}
	if several < 100 {
		t.Errorf("several fates were seen %d times only", several)
	}
}

// TestSeenByChoices: it is what may be, whichever tables are met; and each kind of answer comes often enough.
func TestSeenByChoices(t *testing.T) {
	r := rand.New(rand.NewSource(100))
	count, hows := map[string]int{}, map[int]int{}
	for range 12000 {
		n := someNet(r, r.Intn(6)+1, 12)
		l, behind := someOps(r, n, 6)
		h, header := n.Topo.Hosts[r.Intn(len(n.Topo.Hosts))], r.Intn(16)
		if err := change.Check(n, l); err != nil {
			seenFails(t, n, l, h.Name, header, plain.Told(err))
			count["wrong"]++
			continue
		}
		in := api.Hop{At: h.At, Header: header}
		want := byChoices(n, behind, in, false)
		seenAre(t, n, l, h.Name, header, want...)
		for _, f := range want {
			hows[f.How]++
		}
		if len(want) > 1 {
			count["several"]++
		}
		if len(byChoices(n, behind, in, true)) != len(want) {
			count["remembered"]++
		}
		if t.Failed() {
			t.FailNow()
		}
	}
	for _, what := range []string{"wrong", "several", "remembered"} {
		if count[what] < 100 {
			t.Errorf("%s: %d times only", what, count[what])
		}
	}
	for how := api.Arrived; how <= api.Looped; how++ {
		if hows[how] < 1000 {
			t.Errorf("How %d: %d times only", how, hows[how])
		}
	}
}

// TestSeenOnLongWays: of packets that meet the switches often, up to their last hop.
func TestSeenOnLongWays(t *testing.T) {
	r := rand.New(rand.NewSource(24))
	last, most := map[int]int{}, 0
	for range 2000 {
		n, l, behind := someCounter(r, r.Intn(6)+1)
		h, header := n.Topo.Hosts[r.Intn(len(n.Topo.Hosts))], r.Intn(16)
		want := byChoices(n, behind, api.Hop{At: h.At, Header: header}, false)
		seenAre(t, n, l, h.Name, header, want...)
		for _, f := range want {
			if len(f.Hops) == 24 {
				last[f.How]++
			}
		}
		most = max(most, len(want))
		if t.Failed() {
			t.FailNow()
		}
	}
	if most < 200 {
		t.Errorf("at most %d fates were seen of one packet", most)
	}
	for _, how := range []int{api.Arrived, api.Looped} {
		if last[how] < 50 {
			t.Errorf("at the last hop How %d came %d times only", how, last[how])
		}
	}
}

// safeByHand fails unless Safe answers what is found by hand, and has that.
func safeByHand(t *testing.T, n api.Net, l []api.Op, behind []api.Table, w []api.Wish) (api.Proof, api.Errno) {
	t.Helper()
	var want api.Proof
	fault := plain.Told(change.Check(n, l))
	if fault == api.OK {
		fault = plain.Told(wish.Check(n.Topo, w))
	}
	if fault == api.OK {
		want, fault = proofByHand(n.Topo, w, func(h api.Host, header int) []api.Fate {
			return byChoices(n, behind, api.Hop{At: h.At, Header: header}, false)
		})
	}
	safeIs(t, n, l, w, want, fault)
	return want, fault
}

// TestSafeByHand: of wishes on all that may be seen; and each kind of answer comes often enough.
func TestSafeByHand(t *testing.T) {
	r := rand.New(rand.NewSource(1000))
	told, broken := map[api.Errno]int{}, map[int]int{}
	for range 5000 {
		n := someNet(r, r.Intn(5)+1, 6)
		l, behind := someOps(r, n, r.Intn(3)+1)
		w := someWishes(r, n.Topo)
		p, fault := safeByHand(t, n, l, behind, w)
		told[fault]++
		if fault == api.ErrBroken {
			broken[w[p.Wish].What]++
		}
		if t.Failed() {
			t.FailNow()
		}
	}
	for _, fault := range []api.Errno{api.OK, api.ErrRange, api.ErrNone, api.ErrBroken} {
		if told[fault] < 50 {
			t.Errorf("%v came %d times only", fault, told[fault])
		}
	}
	for what := api.Reach; what <= api.Loops; what++ {
		if broken[what] < 50 {
			t.Errorf("wishes of kind %d broke %d times only", what, broken[what])
		}
	}
}

// everyWish has all wishes that there can be.
func everyWish(x api.Topo) []api.Wish {
	l := wishes(loops())
	for _, a := range x.Hosts {
		for _, b := range x.Hosts {
			l = append(l, reach(a.Name, b.Name), apart(a.Name, b.Name))
			for via := 1; via <= x.Switches; via++ {
				l = append(l, way(a.Name, b.Name, via))
			}
		}
	}
	return l
}

// TestSafeMeanwhile: wishes that hold ahead of the Ops and behind them are told to be broken, or not, by what is between.
func TestSafeMeanwhile(t *testing.T) {
	r := rand.New(rand.NewSource(2000))
	broken, held := map[int]int{}, map[int]int{}
	for range 500 {
		n, l, behind := someEven(r, r.Intn(4)+2)
		for _, w := range everyWish(n.Topo) {
			_, ahead := wish.Holds(n, wishes(w))
			_, after := wish.Holds(api.Net{Topo: n.Topo, Tables: behind}, wishes(w))
			if ahead != nil || after != nil {
				continue
			}
			if _, fault := safeByHand(t, n, l, behind, wishes(w)); fault == api.ErrBroken {
				broken[w.What]++
			} else if len(l) > 0 {
				held[w.What]++
			}
		}
		if t.Failed() {
			t.FailNow()
		}
	}
	for what := api.Reach; what <= api.Loops; what++ {
		// To reach the same host ahead and behind, but not meanwhile, is rare: that is asked of nets made for it.
		if what != api.Reach && broken[what] < 10 || held[what] < 50 {
			t.Errorf("wishes of kind %d broke %d times, held %d times", what, broken[what], held[what])
		}
	}
}

// TestAProofProves: what it says is sent may come to a fate that does not fit; where there is none, all fit.
func TestAProofProves(t *testing.T) {
	r := rand.New(rand.NewSource(10000))
	proven, held := 0, 0
	for range 3000 {
		n := someNet(r, r.Intn(4)+1, 6)
		l, _ := someOps(r, n, 2)
		w := someWishes(r, n.Topo)
		p, err := Safe(n, l, w)
		fits := func(w api.Wish, from string, header int) bool {
			seen, err := Seen(n, l, from, header)
			if err != nil || len(seen) == 0 {
				t.Errorf("Seen(%v, %v, %q, %d): %v, %v", n, l, from, header, seen, err)
			}
			return !slices.ContainsFunc(seen, func(f api.Fate) bool { return !wish.Fits(w, from, f) })
		}
		switch plain.Told(err) {
		case api.ErrBroken:
			proven++
			if fits(w[p.Wish], p.From, p.Header) {
				t.Errorf("%v of %v in %v while %v is no proof", p, w, n, l)
			}
		case api.OK:
			held += len(w)
			for _, x := range w {
				for _, h := range n.Topo.Hosts {
					for header := range 16 {
						if !fits(x, h.Name, header) {
							t.Errorf("%v does not hold in %v while %v: %s sends %d", x, n, l, h.Name, header)
						}
					}
				}
			}
		}
	}
	if proven < 100 || held < 100 {
		t.Errorf("%d were proven, %d held", proven, held)
	}
}
