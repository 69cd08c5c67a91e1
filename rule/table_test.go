package rule

import (
	"cmp"
	"math/rand"
	"slices"
	"testing"

	"railpoint/api"
	"railpoint/plain"
)

// someRules has n right rules, no two with one Prio and one Cube; the fewer Prios, the more are equal.
func someRules(r *rand.Rand, n, prios int) api.Table {
	var t api.Table
	for len(t) < n {
		mask := r.Intn(16)
		x := api.Rule{Prio: r.Intn(prios), Cube: api.Cube{Mask: mask, Bits: r.Intn(16) & mask}, Out: r.Intn(5)}
		if x.Out > 0 && r.Intn(3) == 0 {
			x.Set = r.Intn(16)
			x.Value = r.Intn(16) & x.Set
		}
		if !slices.ContainsFunc(t, func(y api.Rule) bool { return x.Prio == y.Prio && x.Cube == y.Cube }) {
			t = append(t, x)
		}
	}
	return t
}

// someTables has tables of every size to 12.
func someTables() []api.Table {
	r := rand.New(rand.NewSource(3))
	out := []api.Table{nil, {}}
	for n := range 13 {
		for _, prios := range []int{1, 2, 3, 100} {
			for range 150 {
				out = append(out, someRules(r, n, prios))
			}
		}
	}
	return out
}

// counts is the place of the rule that counts for a header: the first that has it, sorted; -1 if none has.
func counts(t api.Table, header int) int {
	places := make([]int, len(t))
	for i := range places {
		places[i] = i
	}
	slices.SortFunc(places, func(i, j int) int {
		a, b := t[i], t[j]
		if a.Prio != b.Prio {
			return cmp.Compare(b.Prio, a.Prio)
		}
		return cmp.Compare(b.Cube.Mask, a.Cube.Mask)
	})
	for _, i := range places {
		if header&t[i].Cube.Mask == t[i].Cube.Bits {
			return i
		}
	}
	return -1
}

func TestTablesThatAreRight(t *testing.T) {
	for _, l := range someTables() {
		kept := slices.Clone(l)
		if err := Table(l); err != nil {
			t.Fatalf("Table(%v): %v", l, err)
		}
		used := make([]bool, len(l))
		for h := range 16 {
			want := counts(l, h)
			got, err := Lookup(l, h)
			if want < 0 {
				if got != 0 || plain.Told(err) != api.ErrNone {
					t.Fatalf("Lookup(%v, %d): %d, %v, want ErrNone", l, h, got, err)
				}
				continue
			}
			used[want] = true
			if got != want || err != nil {
				t.Fatalf("Lookup(%v, %d): %d, %v, want %d", l, h, got, err, want)
			}
		}
		var want []int
		for i := range l {
			if !used[i] {
				want = append(want, i)
			}
		}
		if got, err := Shadowed(l); !slices.Equal(got, want) || err != nil {
			t.Fatalf("Shadowed(%v): %v, %v, want %v", l, got, err, want)
		}
		if !slices.Equal(kept, l) {
			t.Fatalf("%v was written into: %v", kept, l)
		}
	}
}

func of(prio, mask, bits int) api.Rule {
	return api.Rule{Prio: prio, Cube: api.Cube{Mask: mask, Bits: bits}, Out: 1}
}

func TestLookupOrder(t *testing.T) {
	for _, x := range []struct {
		l      api.Table
		header int
		want   int
	}{
		{api.Table{of(0, 0, 0)}, 0, 0},
		{api.Table{of(99, 15, 15)}, 15, 0},
		// The greatest Prio counts, whatever its Mask and place.
		{api.Table{of(1, 15, 5), of(2, 0, 0), of(0, 15, 5)}, 5, 1},
		{api.Table{of(99, 0, 0), of(98, 15, 5)}, 5, 0},
		// Of equal ones the greatest Mask as a number, not the one with the most bits.
		{api.Table{of(3, 7, 7), of(3, 8, 8)}, 15, 1},
		{api.Table{of(3, 8, 8), of(3, 7, 7)}, 15, 0},
		{api.Table{of(3, 0, 0), of(3, 1, 0)}, 2, 1},
		{api.Table{of(3, 1, 0), of(3, 1, 1), of(3, 0, 0)}, 2, 0},
		// One that has the header not does not count.
		{api.Table{of(9, 1, 1), of(2, 0, 0)}, 2, 1},
		// One that drops counts as well.
		{api.Table{of(1, 0, 0), {Prio: 2}}, 7, 1},
	} {
		if got, err := Lookup(x.l, x.header); got != x.want || err != nil {
			t.Errorf("Lookup(%v, %d): %d, %v, want %d", x.l, x.header, got, err, x.want)
		}
	}
}

func TestShadowedEdges(t *testing.T) {
	for _, x := range []struct {
		l    api.Table
		want []int
	}{
		{nil, nil},
		{api.Table{of(0, 0, 0)}, nil},
		{api.Table{of(1, 0, 0), of(2, 0, 0)}, []int{0}},
		{api.Table{of(2, 0, 0), of(1, 0, 0)}, []int{1}},
		{api.Table{of(1, 0, 0), of(1, 15, 3)}, nil},
		// None alone hides the whole one, both together do.
		{api.Table{of(0, 0, 0), of(1, 8, 0), of(1, 8, 8)}, []int{0}},
		{api.Table{of(0, 0, 0), of(1, 8, 0), of(1, 12, 12)}, nil},
		{api.Table{of(1, 1, 1), of(1, 1, 0), of(1, 0, 0)}, []int{2}},
		{api.Table{of(5, 15, 1), of(7, 0, 0), of(6, 15, 1), of(8, 15, 1)}, []int{0, 2}},
	} {
		if got, err := Shadowed(x.l); !slices.Equal(got, x.want) || err != nil {
			t.Errorf("Shadowed(%v): %v, %v, want %v", x.l, got, err, x.want)
		}
	}
}

// tells fails unless all three calls tell one error of a table, and nothing beside it.
func tells(t *testing.T, l api.Table, want api.Errno) {
	t.Helper()
	if got := plain.Told(Table(l)); got != want {
		t.Errorf("Table(%v): %v, want %v", l, got, want)
	}
	for _, header := range []int{0, 15, -1, 16} {
		if got, err := Lookup(l, header); got != 0 || plain.Told(err) != want {
			t.Errorf("Lookup(%v, %d): %d, %v, want %v", l, header, got, err, want)
		}
	}
	if got, err := Shadowed(l); got != nil || plain.Told(err) != want {
		t.Errorf("Shadowed(%v): %v, %v, want %v", l, got, err, want)
	}
}

// distinct has n right rules, each with a Prio of its own.
func distinct(n int) api.Table {
	var l api.Table
	for i := range n {
		l = append(l, of(i%100, 15, i%16))
	}
	return l
}

func TestTableTellsTooMany(t *testing.T) {
	if err := Table(distinct(12)); err != nil {
		t.Errorf("Table of 12: %v", err)
	}
	for _, n := range []int{13, 14, 100, 10000} {
		tells(t, distinct(n), api.ErrFull)
	}
	// Too many is told ahead of wrong rules and of those that clash.
	for r := range wrongRules() {
		tells(t, slices.Repeat(api.Table{r}, 13), api.ErrFull)
	}
	tells(t, slices.Repeat(api.Table{of(1, 0, 0)}, 13), api.ErrFull)
}

func TestTableTellsWrongRules(t *testing.T) {
	for r, want := range wrongRules() {
		for _, n := range []int{1, 2, 7, 12} {
			for _, i := range []int{0, n / 2, n - 1} {
				l := distinct(n)
				l[i] = r
				tells(t, l, want)
			}
		}
	}
	far, misfit := of(100, 0, 0), of(1, 0, 1)
	// The first that has a fault is told.
	tells(t, api.Table{of(1, 0, 0), far, misfit}, api.ErrRange)
	tells(t, api.Table{of(1, 0, 0), misfit, far}, api.ErrShape)
	tells(t, api.Table{misfit, misfit}, api.ErrShape)
	tells(t, api.Table{far, far}, api.ErrRange)
}

// TestTableTellsTheFirstFault lays a clash and a wrong rule into tables at all places, either one ahead.
func TestTableTellsTheFirstFault(t *testing.T) {
	wrong := map[api.Rule]api.Errno{of(100, 0, 0): api.ErrRange, of(1, 0, 1): api.ErrShape}
	for _, n := range []int{3, 5, 12} {
		for first := range n {
			for second := first + 1; second < n; second++ {
				for bad := range n {
					if bad == first || bad == second {
						continue
					}
					for r, fault := range wrong {
						l := distinct(n)
						l[second] = l[first]
						l[second].Out = 3
						l[bad] = r
						if bad > second {
							fault = api.ErrClash
						}
						tells(t, l, fault)
					}
				}
			}
		}
	}
}

// TestTableTellsCheckAheadOfClash: of one rule that is wrong and clashes, the fault of its own is told.
func TestTableTellsCheckAheadOfClash(t *testing.T) {
	for _, n := range []int{2, 7, 12} {
		for i := 1; i < n; i++ {
			l := distinct(n)
			l[i] = l[0]
			l[i].Value = 1
			tells(t, l, api.ErrShape)
			l[i].Value = 16
			tells(t, l, api.ErrRange)
		}
	}
}

// firstFault goes over a table rule by rule, with the faults of those that are wrong at hand.
func firstFault(l api.Table, wrong map[api.Rule]api.Errno) api.Errno {
	for i, r := range l {
		if e, ok := wrong[r]; ok {
			return e
		}
		for _, ahead := range l[:i] {
			if ahead.Prio == r.Prio && ahead.Cube == r.Cube {
				return api.ErrClash
			}
		}
	}
	return api.OK
}

// TestTableTellsTheFirstOfManyFaults holds tables with several wrong and equal rules against firstFault.
func TestTableTellsTheFirstOfManyFaults(t *testing.T) {
	r := rand.New(rand.NewSource(11))
	ill := []api.Rule{
		of(100, 0, 0), of(1, 16, 0), {Prio: -1, Out: 1}, {Prio: 2, Out: 5},
		of(1, 0, 1), {Prio: 1, Value: 1}, {Prio: 1, Set: 1}, {Prio: 2, Out: 1, Set: 2, Value: 3},
	}
	wrong := map[api.Rule]api.Errno{}
	for i, x := range ill {
		wrong[x] = api.ErrRange
		if i >= 4 {
			wrong[x] = api.ErrShape
		}
	}
	for range 5000 {
		l := someRules(r, 2+r.Intn(11), 3)
		for range r.Intn(3) {
			l[r.Intn(len(l))] = ill[r.Intn(len(ill))]
		}
		for range r.Intn(3) {
			l[r.Intn(len(l))] = l[r.Intn(len(l))]
		}
		if want := firstFault(l, wrong); want != api.OK {
			tells(t, l, want)
		} else if err := Table(l); err != nil {
			t.Errorf("Table(%v): %v", l, err)
		}
	}
}

func TestTableTellsClashes(t *testing.T) {
	twin := api.Rule{Prio: 3, Cube: api.Cube{Mask: 15, Bits: 3}, Out: 4, Set: 8, Value: 8}
	for _, n := range []int{4, 7, 12} {
		for _, other := range []api.Rule{of(3, 15, 3), twin, {Prio: 3, Cube: twin.Cube}} {
			for i := range n {
				if i != 3 {
					l := distinct(n)
					l[i] = other
					tells(t, l, api.ErrClash)
				}
			}
		}
	}
	for _, l := range []api.Table{
		{of(3, 15, 3), of(4, 15, 3)},
		{of(3, 15, 3), of(3, 15, 2)},
		{of(3, 15, 3), of(3, 7, 3)},
	} {
		if err := Table(l); err != nil {
			t.Errorf("Table(%v): %v", l, err)
		}
	}
}

func TestLookupTellsHeadersThatAreNone(t *testing.T) {
	for _, n := range noHeaders() {
		for _, l := range []api.Table{nil, {of(1, 0, 0)}, {of(1, 15, 2)}} {
			if got, err := Lookup(l, n); got != 0 || plain.Told(err) != api.ErrRange {
				t.Errorf("Lookup(%v, %d): %d, %v, want ErrRange", l, n, got, err)
			}
		}
	}
}

// TestAnswersAreFresh: what is done to one answer, or to the table behind its length, is not seen in the next one.
func TestAnswersAreFresh(t *testing.T) {
	room := api.Table{of(1, 0, 0), of(2, 0, 0), of(200, -1, -1)}
	l := room[:2]
	first, _ := Shadowed(l)
	first[0] = 77
	if got, err := Shadowed(l); !slices.Equal(got, []int{0}) || err != nil {
		t.Errorf("Shadowed(%v): %v, %v", l, got, err)
	}
	if room[2] != of(200, -1, -1) {
		t.Errorf("behind the table: %v", room[2])
	}
}
