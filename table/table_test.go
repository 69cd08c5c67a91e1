package table

import (
	"math"
	"math/rand"
	"slices"
	"testing"

	"railpoint/api"
	"railpoint/plain"
)

// of is a right rule that goes out at port 1.
func of(prio, mask, bits int) api.Rule {
	return api.Rule{Prio: prio, Cube: api.Cube{Mask: mask, Bits: bits}, Out: 1}
}

// distinct has n right rules, each with a Prio of its own.
func distinct(n int) api.Table {
	var l api.Table
	for i := range n {
		l = append(l, of(i%100, 15, i%16))
	}
	return l
}

// wrongRules has rules that are not right, with the fault of each.
func wrongRules() map[api.Rule]api.Errno {
	return map[api.Rule]api.Errno{
		of(-1, 0, 0):                                 api.ErrRange,
		of(100, 0, 0):                                api.ErrRange,
		of(math.MinInt, 0, 0):                        api.ErrRange,
		of(3, 16, 0):                                 api.ErrRange,
		of(3, 15, -1):                                api.ErrRange,
		{Prio: 3, Out: 5}:                            api.ErrRange,
		{Prio: 3, Out: -1}:                           api.ErrRange,
		{Prio: 3, Out: math.MaxInt}:                  api.ErrRange,
		{Prio: 3, Out: 1, Set: 16}:                   api.ErrRange,
		{Prio: 3, Out: 1, Set: 15, Value: -1}:        api.ErrRange,
		{Prio: 100, Cube: api.Cube{Bits: 1}, Out: 1}: api.ErrRange,
		of(3, 0, 1):                                  api.ErrShape,
		{Prio: 3, Out: 1, Set: 1, Value: 2}:          api.ErrShape,
		{Prio: 3, Set: 1}:                            api.ErrShape,
		{Prio: 3, Value: 1}:                          api.ErrShape,
	}
}

// wrongTables has tables that are not right, with the fault of each.
func wrongTables() []struct {
	l    api.Table
	want api.Errno
} {
	type wrong = struct {
		l    api.Table
		want api.Errno
	}
	out := []wrong{
		{distinct(13), api.ErrFull},
		{distinct(500), api.ErrFull},
		{slices.Repeat(api.Table{of(100, 0, 0)}, 13), api.ErrFull},
		{api.Table{of(1, 0, 0), of(1, 0, 0)}, api.ErrClash},
		{api.Table{of(1, 0, 0), of(2, 0, 0), {Prio: 1}}, api.ErrClash},
		{api.Table{of(1, 0, 0), of(1, 0, 0), of(100, 0, 0)}, api.ErrClash},
		{append(distinct(11), of(0, 15, 0)), api.ErrClash},
		{api.Table{of(1, 0, 0), of(100, 0, 0), of(1, 0, 0)}, api.ErrRange},
		{api.Table{of(1, 0, 1), of(100, 0, 0)}, api.ErrShape},
	}
	for r, e := range wrongRules() {
		for _, n := range []int{1, 2, 7, 12} {
			for _, i := range []int{0, n / 2, n - 1} {
				l := distinct(n)
				l[i] = r
				out = append(out, wrong{l, e})
			}
		}
	}
	return out
}

func does(t *testing.T, l api.Table, add bool, r api.Rule, want api.Table) {
	t.Helper()
	if got, err := Do(l, add, r); !slices.Equal(got, want) || err != nil {
		t.Errorf("Do(%v, %v, %v): %v, %v, want %v", l, add, r, got, err, want)
	}
}

func doesNot(t *testing.T, l api.Table, add bool, r api.Rule, want api.Errno) {
	t.Helper()
	if got, err := Do(l, add, r); got != nil || plain.Told(err) != want {
		t.Errorf("Do(%v, %v, %v): %v, %v, want %v", l, add, r, got, err, want)
	}
}

func TestDoAddsAtTheEnd(t *testing.T) {
	r := api.Rule{Prio: 50, Cube: api.Cube{Mask: 9, Bits: 8}, Out: 4, Set: 3, Value: 2}
	does(t, nil, true, r, api.Table{r})
	does(t, api.Table{}, true, r, api.Table{r})
	for n := range 12 {
		l := distinct(n)
		does(t, l, true, r, append(distinct(n), r))
		// One that would go ahead of all others, or behind them, comes to the end as well.
		does(t, l, true, of(99, 15, 15), append(distinct(n), of(99, 15, 15)))
		does(t, l, true, api.Rule{}, append(distinct(n), api.Rule{}))
	}
}

func TestDoAddsWhatIsNearlyThere(t *testing.T) {
	l := api.Table{of(5, 12, 8)}
	for _, r := range []api.Rule{of(6, 12, 8), of(4, 12, 8), of(5, 12, 12), of(5, 8, 8), of(5, 14, 8)} {
		does(t, l, true, r, api.Table{l[0], r})
	}
}

func TestDoTakesFromEveryPlace(t *testing.T) {
	for n := 1; n <= 12; n++ {
		for i := range n {
			var want api.Table
			for j, r := range distinct(n) {
				if j != i {
					want = append(want, r)
				}
			}
			does(t, distinct(n), false, distinct(n)[i], want)
		}
	}
}

func TestDoThereAndBack(t *testing.T) {
	r := api.Rule{Prio: 50, Out: 3, Set: 8}
	for n := range 12 {
		more, err := Do(distinct(n), true, r)
		if err != nil {
			t.Fatalf("adding to %d: %v", n, err)
		}
		does(t, more, false, r, distinct(n))
	}
	less, err := Do(distinct(12), false, distinct(12)[11])
	if err != nil {
		t.Fatalf("taking from 12: %v", err)
	}
	does(t, less, true, distinct(12)[11], distinct(12))
}

func TestDoTellsWrongTables(t *testing.T) {
	for _, w := range wrongTables() {
		for _, add := range []bool{true, false} {
			doesNot(t, w.l, add, of(77, 0, 0), w.want)
			doesNot(t, w.l, add, w.l[0], w.want)
			// The table is told ahead of the rule.
			doesNot(t, w.l, add, of(100, 0, 0), w.want)
			doesNot(t, w.l, add, of(1, 0, 1), w.want)
		}
	}
}

func TestDoTellsWrongRules(t *testing.T) {
	for r, want := range wrongRules() {
		for _, n := range []int{0, 1, 7, 11, 12} {
			doesNot(t, distinct(n), true, r, want)
			doesNot(t, distinct(n), false, r, want)
		}
	}
	// That it is wrong is told ahead of that one with its Prio and Cube is there, and that just it is not.
	twin := of(3, 15, 3)
	twin.Value = 1
	for _, n := range []int{4, 12} {
		doesNot(t, distinct(n), true, twin, api.ErrShape)
		doesNot(t, distinct(n), false, twin, api.ErrShape)
	}
	twin.Value = 16
	doesNot(t, distinct(12), true, twin, api.ErrRange)
	doesNot(t, distinct(12), false, twin, api.ErrRange)
}

// others has right rules with the Prio and Cube of a rule that differ from it in Out, Set or Value alone.
func others(r api.Rule) []api.Rule {
	out, set, value, drop := r, r, r, r
	out.Out = r.Out%4 + 1
	set.Set = r.Set ^ 8
	value.Value = r.Value ^ 1
	drop.Out, drop.Set, drop.Value = 0, 0, 0
	return []api.Rule{out, set, value, drop}
}

func TestDoTellsClashes(t *testing.T) {
	r := api.Rule{Prio: 50, Cube: api.Cube{Mask: 9, Bits: 8}, Out: 2, Set: 3, Value: 2}
	for _, n := range []int{1, 2, 7, 11, 12} {
		for i := range n {
			l := distinct(n)
			l[i] = r
			doesNot(t, l, true, r, api.ErrClash)
			for _, x := range others(r) {
				doesNot(t, l, true, x, api.ErrClash)
			}
		}
	}
}

func TestDoTellsFull(t *testing.T) {
	for _, r := range []api.Rule{of(50, 0, 0), of(0, 15, 1), {}, of(99, 15, 15)} {
		doesNot(t, distinct(12), true, r, api.ErrFull)
	}
}

func TestDoTellsNone(t *testing.T) {
	r := api.Rule{Prio: 50, Cube: api.Cube{Mask: 9, Bits: 8}, Out: 2, Set: 3, Value: 2}
	doesNot(t, nil, false, r, api.ErrNone)
	doesNot(t, nil, false, api.Rule{}, api.ErrNone)
	for _, n := range []int{1, 2, 7, 12} {
		doesNot(t, distinct(n), false, r, api.ErrNone)
		doesNot(t, distinct(n), false, api.Rule{}, api.ErrNone)
		for i := range n {
			l := distinct(n)
			l[i] = r
			prio, cube := r, r
			prio.Prio, cube.Cube = 51, api.Cube{Mask: 9, Bits: 9}
			for _, x := range append(others(r), prio, cube) {
				doesNot(t, l, false, x, api.ErrNone)
			}
		}
	}
}

func add(r api.Rule) api.Op  { return api.Op{Switch: 1, Add: true, Rule: r} }
func take(r api.Rule) api.Op { return api.Op{Switch: 1, Rule: r} }

func allIs(t *testing.T, l api.Table, ops []api.Op, want api.Table) {
	t.Helper()
	if got, err := All(l, ops); !slices.Equal(got, want) || err != nil {
		t.Errorf("All(%v, %v): %v, %v, want %v", l, ops, got, err, want)
	}
}

func allIsNot(t *testing.T, l api.Table, ops []api.Op, want api.Errno) {
	t.Helper()
	if got, err := All(l, ops); got != nil || plain.Told(err) != want {
		t.Errorf("All(%v, %v): %v, %v, want %v", l, ops, got, err, want)
	}
}

func TestAllWithoutOps(t *testing.T) {
	for n := range 13 {
		allIs(t, distinct(n), nil, distinct(n))
		allIs(t, distinct(n), []api.Op{}, distinct(n))
	}
	// The errors are those of ops: where there is none, nothing is told of a wrong table either.
	for _, w := range wrongTables() {
		allIs(t, w.l, nil, w.l)
	}
}

func TestAllOpByOp(t *testing.T) {
	a, b, c := of(1, 0, 0), of(2, 8, 8), api.Rule{Prio: 2, Out: 3, Set: 1}
	allIs(t, nil, []api.Op{add(a), add(b), add(c)}, api.Table{a, b, c})
	allIs(t, api.Table{a, b, c}, []api.Op{take(b), take(a)}, api.Table{c})
	allIs(t, api.Table{a, b}, []api.Op{take(a), add(a)}, api.Table{b, a})
	allIs(t, api.Table{a, b}, []api.Op{add(c), take(a), take(c), add(a), add(c)}, api.Table{b, a, c})
	allIs(t, nil, slices.Repeat([]api.Op{add(a), take(a)}, 500), nil)
	// Each op meets what those ahead of it left.
	other := a
	other.Out = 4
	allIs(t, api.Table{a}, []api.Op{take(a), add(other)}, api.Table{other})
	allIsNot(t, api.Table{a}, []api.Op{add(other), take(a)}, api.ErrClash)
	full, more := distinct(12), of(50, 0, 0)
	allIs(t, full, []api.Op{take(full[4]), add(more)}, append(slices.Delete(distinct(12), 4, 5), more))
	allIsNot(t, full, []api.Op{add(more), take(full[4])}, api.ErrFull)
	allIsNot(t, distinct(11), []api.Op{add(more), add(of(51, 0, 0))}, api.ErrFull)
	allIsNot(t, api.Table{a}, []api.Op{take(a), take(a)}, api.ErrNone)
}

func TestAllLeavesTheSwitch(t *testing.T) {
	a, b := of(1, 0, 0), of(2, 8, 8)
	for _, n := range []int{math.MinInt, -1, 0, 1, 6, 7, math.MaxInt} {
		for _, m := range []int{0, 1, 99} {
			allIs(t, api.Table{a}, []api.Op{{Switch: n, Add: true, Rule: b}, {Switch: m, Rule: a}}, api.Table{b})
			allIsNot(t, nil, []api.Op{{Switch: n, Rule: a}, {Switch: m, Add: true, Rule: a}}, api.ErrNone)
		}
	}
}

// TestAllTellsTheFirstError lays an op that is wrong at every place of some that are right, and another one behind it.
func TestAllTellsTheFirstError(t *testing.T) {
	l := distinct(8)
	wrong := map[api.Op]api.Errno{
		add(of(0, 15, 0)):  api.ErrClash,
		take(of(60, 0, 0)): api.ErrNone,
	}
	for r, e := range wrongRules() {
		wrong[add(r)], wrong[take(r)] = e, e
	}
	for o, want := range wrong {
		for i := range 7 {
			var ops []api.Op
			for j := range 6 {
				ops = append(ops, add(of(70, 15, j)), take(of(70, 15, j)))
			}
			ops = slices.Insert(ops, 2*i, o)
			allIsNot(t, l, ops, want)
			for _, behind := range []api.Op{add(of(100, 0, 0)), add(of(1, 0, 1)), take(of(61, 0, 0)), add(of(1, 15, 1))} {
				allIsNot(t, l, append(ops, behind), want)
			}
		}
	}
}

func TestAllTellsWrongTables(t *testing.T) {
	for _, w := range wrongTables() {
		for _, o := range []api.Op{add(of(77, 0, 0)), take(w.l[0]), add(of(100, 0, 0)), add(of(1, 0, 1)), take(of(77, 0, 0))} {
			allIsNot(t, w.l, []api.Op{o}, w.want)
			allIsNot(t, w.l, []api.Op{o, add(of(78, 0, 0))}, w.want)
		}
	}
}

func sameIs(t *testing.T, a, b api.Table, want bool) {
	t.Helper()
	if got, err := Same(a, b); got != want || err != nil {
		t.Errorf("Same(%v, %v): %v, %v, want %v", a, b, got, err, want)
	}
	if got, err := Same(b, a); got != want || err != nil {
		t.Errorf("Same(%v, %v): %v, %v, want %v", b, a, got, err, want)
	}
}

func TestSame(t *testing.T) {
	sameIs(t, nil, nil, true)
	sameIs(t, nil, api.Table{}, true)
	sameIs(t, nil, api.Table{{}}, false)
	r := rand.New(rand.NewSource(4))
	for n := 1; n <= 12; n++ {
		l := distinct(n)
		sameIs(t, l, distinct(n), true)
		for range 20 {
			m := distinct(n)
			r.Shuffle(n, func(i, j int) { m[i], m[j] = m[j], m[i] })
			sameIs(t, l, m, true)
			for i := range m {
				sameIs(t, l, slices.Delete(slices.Clone(m), i, i+1), false)
				kept := m[i]
				for _, x := range append(others(kept), of(50, 0, 0)) {
					if x != kept && x.Value == x.Value&x.Set {
						m[i] = x
						sameIs(t, l, m, false)
					}
				}
				m[i] = kept
			}
		}
	}
	sameIs(t, distinct(11), distinct(12), false)
	sameIs(t, distinct(12)[:6], distinct(12)[6:], false)
}

func diffIs(t *testing.T, a, b api.Table, want []api.Op) {
	t.Helper()
	if got, err := Diff(a, b); !slices.Equal(got, want) || err != nil {
		t.Errorf("Diff(%v, %v): %v, %v, want %v", a, b, got, err, want)
	}
}

func TestDiff(t *testing.T) {
	a, b, c, d := of(1, 0, 0), of(2, 8, 8), api.Rule{Prio: 2, Out: 3, Set: 1}, of(9, 15, 3)
	gone := func(r api.Rule) api.Op { return api.Op{Rule: r} }
	come := func(r api.Rule) api.Op { return api.Op{Add: true, Rule: r} }
	other := a
	other.Out = 2
	for _, x := range []struct {
		from, to api.Table
		want     []api.Op
	}{
		{nil, nil, nil},
		{nil, api.Table{}, nil},
		{api.Table{a}, api.Table{a}, nil},
		// What stands in another order is there.
		{api.Table{a, b, c}, api.Table{c, a, b}, nil},
		{nil, api.Table{a}, []api.Op{come(a)}},
		{api.Table{a}, nil, []api.Op{gone(a)}},
		// What goes in the order of the first one, what comes in that of the second, whatever their Prios.
		{api.Table{c, a}, api.Table{d, b}, []api.Op{gone(c), gone(a), come(d), come(b)}},
		{api.Table{a, c}, api.Table{b, d}, []api.Op{gone(a), gone(c), come(b), come(d)}},
		{api.Table{a, b, c}, api.Table{d, b}, []api.Op{gone(a), gone(c), come(d)}},
		{api.Table{b, d}, api.Table{c, d, a, b}, []api.Op{come(c), come(a)}},
		{api.Table{b, a, d}, api.Table{c, other}, []api.Op{gone(b), gone(a), gone(d), come(c), come(other)}},
	} {
		diffIs(t, x.from, x.to, x.want)
	}
	full := distinct(12)
	diffIs(t, full, full, nil)
	diffIs(t, full, distinct(11), []api.Op{gone(full[11])})
	diffIs(t, distinct(11), full, []api.Op{come(full[11])})
}

func roomIs(t *testing.T, a, b api.Table, want int) {
	t.Helper()
	if got, err := Room(a, b); got != want || err != nil {
		t.Errorf("Room(%v, %v): %d, %v, want %d", a, b, got, err, want)
	}
	if got, err := Room(b, a); got != want || err != nil {
		t.Errorf("Room(%v, %v): %d, %v, want %d", b, a, got, err, want)
	}
}

func TestRoom(t *testing.T) {
	all := distinct(24)
	roomIs(t, nil, nil, 0)
	roomIs(t, api.Table{}, nil, 0)
	for n := range 13 {
		roomIs(t, all[:n], nil, n)
		roomIs(t, all[:n], all[:n], n)
		roomIs(t, all[:n], all[12:24], n+12)
		roomIs(t, all[:12], all[n:n+12], n+12)
		roomIs(t, all[:12], all[:n], 12)
		back := distinct(n)
		slices.Reverse(back)
		roomIs(t, all[:n], back, n)
	}
}

func roomIsNot(t *testing.T, a, b api.Table, want api.Errno) {
	t.Helper()
	if got, err := Room(a, b); got != 0 || plain.Told(err) != want {
		t.Errorf("Room(%v, %v): %d, %v, want %v", a, b, got, err, want)
	}
}

func TestRoomTellsClashes(t *testing.T) {
	r := api.Rule{Prio: 50, Cube: api.Cube{Mask: 9, Bits: 8}, Out: 2, Set: 3, Value: 2}
	for _, x := range others(r) {
		for _, n := range []int{1, 2, 7, 12} {
			for i := range n {
				for j := range n {
					a, b := distinct(n), distinct(n)
					a[i], b[j] = r, x
					roomIsNot(t, a, b, api.ErrClash)
					roomIsNot(t, b, a, api.ErrClash)
				}
			}
		}
	}
	prio, mask, bits := r, r, r
	prio.Prio, mask.Cube.Mask, bits.Cube.Bits = 51, 13, 9
	for _, x := range []api.Rule{prio, mask, bits} {
		roomIs(t, api.Table{r}, api.Table{x}, 2)
	}
}

// told fails unless all three calls tell one error of two tables, and nothing beside it.
func told(t *testing.T, a, b api.Table, want api.Errno) {
	t.Helper()
	if got, err := Same(a, b); got || plain.Told(err) != want {
		t.Errorf("Same(%v, %v): %v, %v, want %v", a, b, got, err, want)
	}
	if got, err := Diff(a, b); got != nil || plain.Told(err) != want {
		t.Errorf("Diff(%v, %v): %v, %v, want %v", a, b, got, err, want)
	}
	roomIsNot(t, a, b, want)
}

func TestWrongTablesBesideRightOnes(t *testing.T) {
	clash := distinct(12)
	clash[0].Out = 2
	for _, w := range wrongTables() {
		for _, right := range []api.Table{nil, distinct(1), distinct(12), clash} {
			told(t, w.l, right, w.want)
			told(t, right, w.l, w.want)
		}
	}
}

// TestWrongTablesBesideWrongOnes: what is wrong with the first one is told, wherever it is.
func TestWrongTablesBesideWrongOnes(t *testing.T) {
	wrong := wrongTables()
	for _, a := range wrong[:20] {
		for _, b := range wrong {
			told(t, a.l, b.l, a.want)
		}
	}
}
