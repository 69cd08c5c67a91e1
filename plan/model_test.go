package plan

import (
	"cmp"
	"fmt"
	"math/rand"
	"slices"
	"testing"

	"railpoint/api"
	"railpoint/change"
	"railpoint/mix"
	"railpoint/wish"
)

// parts has all sets of some switches.
func parts(l []int) [][]int {
	out := [][]int{nil}
	for _, s := range l {
		for _, x := range slices.Clone(out) {
			out = append(out, append(slices.Clone(x), s))
		}
	}
	return out
}

// without has the switches that are not in a set, rising.
func without(l, set []int) []int {
	return slices.DeleteFunc(slices.Clone(l), func(s int) bool { return slices.Contains(set, s) })
}

// asks tells whether a set of switches may be done in one Round behind those that are done.
type asks func(done, set []int) bool

// once has what was asked already kept.
func once(safe asks) asks {
	number := func(l []int) int {
		n := 0
		for _, s := range l {
			n |= 1 << s
		}
		return n
	}
	known := map[[2]int]bool{}
	return func(done, set []int) bool {
		key := [2]int{number(done), number(set)}
		if _, ok := known[key]; !ok {
			known[key] = safe(done, set)
		}
		return known[key]
	}
}

// courses has all ways in which some switches can be done, Round by Round.
func courses(all, done []int, safe asks) [][][]int {
	left := without(all, done)
	if len(left) == 0 {
		return [][][]int{nil}
	}
	var out [][][]int
	for _, set := range parts(left)[1:] {
		if safe(done, set) {
			for _, rest := range courses(all, slices.Concat(done, set), safe) {
				out = append(out, append([][]int{set}, rest...))
			}
		}
	}
	return out
}

// aheadOf orders courses: by how many Rounds they have, then set by set.
func aheadOf(x, y [][]int) int {
	return cmp.Or(cmp.Compare(len(x), len(y)), slices.CompareFunc(x, y, func(a, b []int) int {
		for s := 1; s <= 6; s++ {
			if in := slices.Contains(a, s); in != slices.Contains(b, s) {
				if in {
					return -1
				}
				return 1
			}
		}
		return 0
	}))
}

// leastByHand has the first of the shortest courses, and whether there is any.
func leastByHand(all []int, safe asks) ([][]int, bool) {
	l := courses(all, nil, safe)
	if len(l) == 0 {
		return nil, false
	}
	return slices.MinFunc(l, aheadOf), true
}

// planByHand has the course in which each that is left is taken, if it may be, and whether that leads to the end.
func planByHand(all []int, safe asks) ([][]int, bool) {
	var out [][]int
	var done []int
	for len(done) < len(all) {
		var set []int
		for _, s := range without(all, done) {
			if safe(done, append(slices.Clone(set), s)) {
				set = append(set, s)
			}
		}
		if len(set) == 0 {
			return nil, false
		}
		out = append(out, set)
		done = append(done, set...)
	}
	return out, true
}

// tally is how often answers of a kind came.
type tally map[string]int

// atLeast fails unless each kind came so often.
func (c tally) atLeast(t *testing.T, n int, kinds ...string) {
	t.Helper()
	for _, what := range kinds {
		if c[what] < n {
			t.Errorf("%s: %d times only: %v", what, c[what], c)
		}
	}
}

// asByHand fails unless Plan and Least answer what is found by hand of nets in which the wishes hold at first.
func asByHand(t *testing.T, a, b api.Net, w []api.Wish, all []int, safe asks, count tally) {
	t.Helper()
	planned, ok := planByHand(all, safe)
	least, can := leastByHand(all, safe)
	fault, none := api.OK, api.OK
	if !ok {
		fault = api.ErrBroken
	}
	if !can {
		none = api.ErrBroken
	}
	planIs(t, a, b, w, inSets(a, b, planned...), fault)
	leastAre(t, a, b, w, inSets(a, b, least...), none)
	switch {
	case !can:
		count["broken"]++
	case !ok:
		count["stuck"]++
	case len(planned) > len(least):
		count["more"]++
	case len(least) > 1:
		count["several"]++
	default:
		count["one"]++
	}
}

// isBad tells whether just these switches are one of the bad sets.
func isBad(bad [][]int, l []int) bool {
	l = slices.Sorted(slices.Values(l))
	return slices.ContainsFunc(bad, func(x []int) bool { return slices.Equal(x, l) })
}

// byStates tells what is safe where what holds hangs on which switches have changed alone: then it must hold
// whichever of the set have changed.
func byStates(bad [][]int) asks {
	return once(func(done, set []int) bool {
		return !slices.ContainsFunc(parts(set), func(x []int) bool { return isBad(bad, slices.Concat(done, x)) })
	})
}

// someBad has sets of these switches, but not of all and not of none; the more, the greater n.
func someBad(r *rand.Rand, row []int, n int) [][]int {
	var bad [][]int
	for _, l := range parts(row) {
		if len(l) > 0 && len(l) < len(row) && r.Intn(12) < n {
			bad = append(bad, l)
		}
	}
	return bad
}

// TestByStates: Plan and Least of nets in which any sets of switches may be bad.
func TestByStates(t *testing.T) {
	r := rand.New(rand.NewSource(11))
	count := tally{}
	for i := range 800 {
		judge := r.Intn(5) + 1
		row, pair := others(judge), judged
		if i%2 == 0 {
			row, pair = []int{1, 2, 3, 4, 5}, judgedByAll
		}
		bad := someBad(r, row, 1+i%6)
		a, b := pair(judge, bad...)
		asByHand(t, a, b, wishes(reach("ann", "bob")), row, byStates(bad), count)
		if t.Failed() {
			t.FailNow()
		}
	}
	count.atLeast(t, 15, "broken", "stuck", "more", "several", "one")
}

// TestByStatesOfThree: all that may be bad of three switches, none and all of them, too.
func TestByStatesOfThree(t *testing.T) {
	row := []int{1, 3, 4}
	w := wishes(reach("ann", "bob"))
	for which := range 1 << 8 {
		var bad [][]int
		for i, l := range parts(row) {
			if which>>i&1 == 1 {
				bad = append(bad, l)
			}
		}
		a, b := judged(2, bad...)
		b.Tables[4] = a.Tables[4]
		if isBad(bad, nil) {
			bothAre(t, a, b, w, nil, api.ErrBroken)
			verifyIs(t, a, b, w, inSets(a, b, row), 0, api.ErrBroken)
			continue
		}
		asByHand(t, a, b, w, row, byStates(bad), tally{})
	}
}

// verifiedByHand has what Verify is to answer of Rounds of sets, by which sets are bad.
func verifiedByHand(row []int, bad, sets [][]int) (int, api.Errno) {
	if isBad(bad, nil) {
		return 0, api.ErrBroken
	}
	var done []int
	for i, set := range sets {
		if slices.ContainsFunc(set, func(s int) bool { return slices.Contains(done, s) }) {
			return i, api.ErrNone
		}
		if !byStates(bad)(done, set) {
			return i, api.ErrBroken
		}
		done = append(done, set...)
	}
	if len(done) < len(row) {
		return len(sets), api.ErrState
	}
	return len(sets), api.OK
}

// TestVerifyByStates: Rounds of any sets, in which a switch may be missing, or be twice.
func TestVerifyByStates(t *testing.T) {
	r := rand.New(rand.NewSource(12))
	count := tally{}
	for i := range 6000 {
		judge := r.Intn(5) + 1
		row := others(judge)
		bad := someBad(r, row, i%3)
		a, b := judged(judge, bad...)
		sets := make([][]int, r.Intn(4)+1)
		for _, s := range row {
			for range 1 + r.Intn(14)/13 {
				if k := r.Intn(len(sets)); r.Intn(15) > 0 && !slices.Contains(sets[k], s) {
					sets[k] = append(sets[k], s)
				}
			}
		}
		n, fault := verifiedByHand(row, bad, sets)
		verifyIs(t, a, b, wishes(reach("ann", "bob")), inSets(a, b, sets...), n, fault)
		count[fmt.Sprintf("%v %d", fault, min(n, 2))]++
		if t.Failed() {
			t.FailNow()
		}
	}
	count.atLeast(t, 30, "OK 1", "OK 2", "ErrBroken 0", "ErrBroken 1", "ErrBroken 2", "ErrNone 1", "ErrNone 2", "ErrState 1", "ErrState 2")
}

// someTopo is right: most ports are joined, and there are a few hosts.
func someTopo(r *rand.Rand, switches int) api.Topo {
	x := api.Topo{Switches: switches}
	var free []api.Spot
	for i := range 4 * switches {
		free = append(free, spot(i/4+1, i%4+1))
	}
	r.Shuffle(len(free), func(i, j int) { free[i], free[j] = free[j], free[i] })
	for i, s := range free[:r.Intn(3)+2] {
		x.Hosts = append(x.Hosts, api.Host{Name: string(rune('a' + i)), At: s})
	}
	for l := range slices.Chunk(free[len(x.Hosts):], 2) {
		if len(l) == 2 {
			x.Links = append(x.Links, api.Link{A: l[0], B: l[1]})
		}
	}
	return x
}

// someTable is right, and mostly sends on.
func someTable(r *rand.Rand) api.Table {
	t := api.Table{{Prio: 10, Out: r.Intn(4) + 1}}
	for i := range r.Intn(3) {
		x := api.Rule{Prio: 20 + i, Cube: api.Cube{Mask: 1 << r.Intn(4)}, Out: r.Intn(4) + 1, Set: 1 << r.Intn(4)}
		x.Cube.Bits, x.Value = r.Intn(16)&x.Cube.Mask, r.Intn(16)&x.Set
		t = append(t, x)
	}
	return t
}

// somePair has two nets of one topology, of which most tables differ.
func somePair(r *rand.Rand, switches int) (api.Net, api.Net) {
	x := someTopo(r, switches)
	a, b := api.Net{Topo: x}, api.Net{Topo: x}
	for range switches {
		old := someTable(r)
		young := old
		if r.Intn(8) > 0 {
			young = someTable(r)
		}
		a.Tables, b.Tables = append(a.Tables, old), append(b.Tables, young)
	}
	return a, b
}

// someHeld has a few wishes that hold in both nets.
func someHeld(r *rand.Rand, a, b api.Net) []api.Wish {
	all := wishes(loops())
	for range 24 {
		x, y := a.Topo.Hosts[r.Intn(len(a.Topo.Hosts))].Name, a.Topo.Hosts[r.Intn(len(a.Topo.Hosts))].Name
		all = append(all, wishes(reach(x, y), reach(x, y), apart(x, y), way(x, y, r.Intn(a.Topo.Switches)+1))[r.Intn(4)])
	}
	r.Shuffle(len(all), func(i, j int) { all[i], all[j] = all[j], all[i] })
	all = slices.DeleteFunc(all, func(w api.Wish) bool {
		_, first := wish.Holds(a, wishes(w))
		_, last := wish.Holds(b, wishes(w))
		return first != nil || last != nil
	})
	return all[:min(len(all), r.Intn(8)+1)]
}

// bySafe tells what is safe as chapter 10's Safe does.
func bySafe(t *testing.T, a, b api.Net, w []api.Wish) asks {
	return once(func(done, set []int) bool {
		l := inSets(a, b, done, set)
		n, err := change.Apply(a, l[0])
		if err != nil {
			t.Fatal(err)
		}
		_, err = mix.Safe(n, l[1], w)
		return err == nil
	})
}

// TestBySafe: Plan and Least of any nets, in which packets may come to a switch more than once.
func TestBySafe(t *testing.T) {
	r := rand.New(rand.NewSource(13))
	count := tally{}
	for i := range 2500 {
		switches := r.Intn(4) + 1
		if i%50 == 0 {
			switches = r.Intn(2) + 5
		}
		a, b := somePair(r, switches)
		w := someHeld(r, a, b)
		var all []int
		for s := 1; s <= switches; s++ {
			if len(opsOf(a, b, s)) > 0 {
				all = append(all, s)
			}
		}
		safe := bySafe(t, a, b, w)
		// Most may be done in one Round: of these a few are enough.
		if safe(nil, all) && i%20 > 0 {
			continue
		}
		asByHand(t, a, b, w, all, safe, count)
		if t.Failed() {
			t.FailNow()
		}
	}
	count.atLeast(t, 5, "broken", "several", "one")
}
