package class

import (
	"math/rand"
	"reflect"
	"slices"
	"testing"

	"railpoint/api"
)

// someTable is right; Prios are few, so that Mask and Bits often tell which rule counts.
func someTable(r *rand.Rand) api.Table {
	var t api.Table
	for range r.Intn(13) {
		x := api.Rule{Prio: r.Intn(3), Out: r.Intn(5)}
		x.Cube.Mask = r.Intn(16)
		x.Cube.Bits = r.Intn(16) & x.Cube.Mask
		if !slices.ContainsFunc(t, func(y api.Rule) bool { return y.Prio == x.Prio && y.Cube == x.Cube }) {
			t = append(t, x)
		}
	}
	return t
}

// placeByHand is that of the rule that is the greatest of those that have the header; -1 of none.
func placeByHand(t api.Table, header int) int {
	best, place := -1, -1
	for i, x := range t {
		if weight := x.Prio<<8 | x.Cube.Mask<<4 | x.Cube.Bits; header&x.Cube.Mask == x.Cube.Bits && weight > best {
			best, place = weight, i
		}
	}
	return place
}

// wayByHand has the places of all tables.
func wayByHand(tables []api.Table, header int) []int {
	var l []int
	for _, t := range tables {
		l = append(l, placeByHand(t, header))
	}
	return l
}

// leastByHand is the least header that goes as a header does.
func leastByHand(tables []api.Table, header int) int {
	least := 0
	for !reflect.DeepEqual(wayByHand(tables, least), wayByHand(tables, header)) {
		least++
	}
	return least
}

// classesByHand lays each header to its least one, and leaves out what stays empty.
func classesByHand(tables []api.Table) [][]int {
	var at [16][]int
	for h := range 16 {
		least := leastByHand(tables, h)
		at[least] = append(at[least], h)
	}
	var l [][]int
	for _, c := range at {
		if c != nil {
			l = append(l, c)
		}
	}
	return l
}

func TestItIsAsByHand(t *testing.T) {
	r := rand.New(rand.NewSource(7))
	var many [17]int
	for range 3000 {
		tables := make([]api.Table, r.Intn(6)+1)
		for i := range tables {
			if r.Intn(3) > 0 {
				tables[i] = someTable(r)
			}
			ofIs(t, tables[i], classesByHand(tables[i:i+1]), api.OK)
		}
		want := classesByHand(tables)
		many[len(want)]++
		allIs(t, bare(tables...), want, api.OK)
		for h := range 16 {
			pathIs(t, bare(tables...), h, wayByHand(tables, h), api.OK)
			repIs(t, want, h, leastByHand(tables, h), api.OK)
		}
		if t.Failed() {
			t.FailNow()
		}
	}
	for n := 1; n <= 16; n++ {
		if many[n] < 5 {
			t.Errorf("%d classes came %d times only", n, many[n])
		}
	}
}

func TestRepIsAsByHand(t *testing.T) {
	r := rand.New(rand.NewSource(70))
	for range 20000 {
		l := make([][]int, r.Intn(5))
		for i := range l {
			for range r.Intn(5) {
				l[i] = append(l[i], r.Intn(24)-4)
			}
		}
		header := r.Intn(26) - 5
		want, fault := 0, api.ErrNone
		for _, c := range l {
			if fault == api.ErrNone && slices.Contains(c, header) {
				sorted := slices.Sorted(slices.Values(c))
				want, fault = sorted[0], api.OK
			}
		}
		repIs(t, l, header, want, fault)
	}
}
