package table

import (
	"math/rand"
	"slices"
	"testing"

	"railpoint/api"
	"railpoint/plain"
)

// someRule is a right rule out of few, so that many are equal, or have one Prio and Cube.
func someRule(r *rand.Rand) api.Rule {
	masks := []int{0, 8, 15}
	mask := masks[r.Intn(3)]
	x := api.Rule{Prio: r.Intn(3), Cube: api.Cube{Mask: mask, Bits: r.Intn(16) & mask & 9}, Out: r.Intn(3)}
	if x.Out > 0 {
		x.Set = r.Intn(2)
		x.Value = r.Intn(2) & x.Set
	}
	return x
}

// someTable has at most n of such rules, no two with one Prio and Cube.
func someTable(r *rand.Rand, n int) api.Table {
	var l api.Table
	for range n {
		x := someRule(r)
		if place(l, x) < 0 {
			l = append(l, x)
		}
	}
	return l
}

// place is where the rule with the Prio and Cube of x stands, -1 if there is none.
func place(l api.Table, x api.Rule) int {
	for i, y := range l {
		if y.Prio == x.Prio && y.Cube.Mask == x.Cube.Mask && y.Cube.Bits == x.Cube.Bits {
			return i
		}
	}
	return -1
}

// done does one op on a right table by hand.
func done(l api.Table, o api.Op) (api.Table, api.Errno) {
	i := place(l, o.Rule)
	if o.Add {
		switch {
		case i >= 0:
			return nil, api.ErrClash
		case len(l) == 12:
			return nil, api.ErrFull
		}
		return append(append(api.Table{}, l...), o.Rule), api.OK
	}
	if i < 0 || l[i] != o.Rule {
		return nil, api.ErrNone
	}
	var out api.Table
	for j, x := range l {
		if j != i {
			out = append(out, x)
		}
	}
	return out, api.OK
}

func someOps(r *rand.Rand, l api.Table) []api.Op {
	var ops []api.Op
	for range r.Intn(8) {
		x := someRule(r)
		if len(l) > 0 && r.Intn(2) == 0 {
			x = l[r.Intn(len(l))]
		}
		ops = append(ops, api.Op{Switch: r.Intn(9) - 1, Add: r.Intn(2) == 0, Rule: x})
	}
	return ops
}

func TestOpsAreDoneAsByHand(t *testing.T) {
	r := rand.New(rand.NewSource(14))
	seen := [10]int{}
	for range 40000 {
		l := someTable(r, r.Intn(40))
		l = l[:min(12, len(l))]
		ops := someOps(r, l)
		want, fault := l, api.OK
		for _, o := range ops {
			if want, fault = done(want, o); fault != api.OK {
				break
			}
		}
		seen[fault]++
		if got, err := All(l, ops); !slices.Equal(got, want) || plain.Told(err) != fault {
			t.Fatalf("All(%v, %v): %v, %v, want %v, %v", l, ops, got, err, want, fault)
		}
		if len(ops) > 0 {
			want, fault := done(l, ops[0])
			if got, err := Do(l, ops[0].Add, ops[0].Rule); !slices.Equal(got, want) || plain.Told(err) != fault {
				t.Fatalf("Do(%v, %v): %v, %v, want %v, %v", l, ops[0], got, err, want, fault)
			}
		}
	}
	for _, e := range []api.Errno{api.OK, api.ErrClash, api.ErrFull, api.ErrNone} {
		if seen[e] < 500 {
			t.Errorf("%v came %d times only", e, seen[e])
		}
	}
}

// apart counts the rules of a that b has not, those of both, and whether two of them are at odds.
func apart(a, b api.Table) (gone, both int, odds bool) {
	for _, x := range a {
		i := place(b, x)
		switch {
		case i < 0:
			gone++
		case b[i] == x:
			both++
		default:
			gone++
			odds = true
		}
	}
	return gone, both, odds
}

// holdsDiff fails unless the ops make of a what has the rules of b, each rule of one of them told once and in its order.
func holdsDiff(t *testing.T, a, b api.Table, ops []api.Op, gone, come int) {
	t.Helper()
	if len(ops) != gone+come {
		t.Fatalf("Diff(%v, %v): %v, want %d taken, %d added", a, b, ops, gone, come)
	}
	l, last := a, -1
	for i, o := range ops {
		from := a
		if i >= gone {
			from = b
		}
		if i == gone {
			last = -1
		}
		at := slices.Index(from, o.Rule)
		if o.Switch != 0 || o.Add != (i >= gone) || at <= last {
			t.Fatalf("Diff(%v, %v): %v: wrong at %d", a, b, ops, i)
		}
		last = at
		var fault api.Errno
		if l, fault = done(l, o); fault != api.OK {
			t.Fatalf("Diff(%v, %v): %v: %v at %d", a, b, ops, fault, i)
		}
	}
	if left, _, _ := apart(l, b); left != 0 || len(l) != len(b) {
		t.Fatalf("Diff(%v, %v): %v makes %v", a, b, ops, l)
	}
}

func TestTwoTablesAsByHand(t *testing.T) {
	r := rand.New(rand.NewSource(41))
	same, odd := 0, 0
	for range 40000 {
		a := someTable(r, r.Intn(12))
		b := someTable(r, r.Intn(12))
		if r.Intn(2) == 0 {
			b = slices.Clone(a)
			r.Shuffle(len(b), func(i, j int) { b[i], b[j] = b[j], b[i] })
			if len(b) > 0 && r.Intn(2) == 0 {
				b = b[1:]
			}
		}
		gone, both, odds := apart(a, b)
		come := len(b) - both
		if got, err := Same(a, b); got != (gone+come == 0) || err != nil {
			t.Fatalf("Same(%v, %v): %v, %v", a, b, got, err)
		}
		ops, err := Diff(a, b)
		if err != nil {
			t.Fatalf("Diff(%v, %v): %v", a, b, err)
		}
		holdsDiff(t, a, b, ops, gone, come)
		if got, err := All(a, ops); err != nil || len(got) != len(b) {
			t.Fatalf("All(%v, %v): %v, %v", a, ops, got, err)
		}
		if odds {
			odd++
			roomIsNot(t, a, b, api.ErrClash)
		} else {
			roomIs(t, a, b, gone+both+come)
		}
		if gone+come == 0 {
			same++
		}
	}
	if same < 1000 || odd < 1000 {
		t.Errorf("%d the same, %d at odds: too few to tell", same, odd)
	}
}

// roomy is a table with rules behind its length that are none of it.
func roomy(l api.Table) api.Table {
	behind := api.Table{of(98, 0, 0), of(100, -1, 77), {Prio: -5}}
	return append(append(make(api.Table, 0, len(l)+3), l...), behind...)[:len(l)]
}

// asItWas fails unless a table of roomy is as it was, with what lies behind its length.
func asItWas(t *testing.T, what string, l, want api.Table) {
	t.Helper()
	if !slices.Equal(l[:cap(l)], roomy(want)[:len(want)+3]) {
		t.Errorf("%s: %v became %v", what, roomy(want)[:len(want)+3], l[:cap(l)])
	}
}

// spoil writes over an answer, and over all the room that it has.
func spoil(l api.Table) {
	for i := range l[:cap(l)] {
		l[:cap(l)][i] = api.Rule{Prio: -7}
	}
}

func TestTablesAreNotWrittenInto(t *testing.T) {
	for _, n := range []int{0, 1, 5, 11, 12} {
		kept := distinct(n)
		ops := []api.Op{add(of(50, 0, 0)), take(of(50, 0, 0)), add(of(51, 0, 0)), add(of(100, 0, 0))}
		if n > 0 {
			ops = append([]api.Op{take(kept[0]), add(kept[0])}, ops...)
		}
		keptOps := slices.Clone(ops)
		for _, r := range append(distinct(n), of(50, 0, 0)) {
			for _, adds := range []bool{true, false} {
				l := roomy(kept)
				got, _ := Do(l, adds, r)
				want := slices.Clone(got)
				asItWas(t, "Do", l, kept)
				spoil(got)
				asItWas(t, "spoiling what Do answers", l, kept)
				got, _ = Do(l, adds, r)
				spoil(l)
				if !slices.Equal(got, want) {
					t.Errorf("Do(%v, %v, %v): its answer hangs on the table", kept, adds, r)
				}
			}
		}
		for i := range len(ops) + 1 {
			l := roomy(kept)
			got, _ := All(l, ops[:i:i])
			asItWas(t, "All", l, kept)
			want := slices.Clone(got)
			spoil(got)
			asItWas(t, "spoiling what All answers", l, kept)
			got, _ = All(l, ops[:i])
			spoil(l)
			if !slices.Equal(got, want) || !slices.Equal(ops, keptOps) {
				t.Errorf("All(%v, %v): its answer hangs on what it was given, or it writes into it", kept, ops[:i])
			}
		}
	}
}

func TestPairsAreNotWrittenInto(t *testing.T) {
	r := rand.New(rand.NewSource(5))
	for range 500 {
		keptA, keptB := someTable(r, 12), someTable(r, 12)
		a, b := roomy(keptA), roomy(keptB)
		ops, _ := Diff(a, b)
		want := slices.Clone(ops)
		Same(a, b)
		Room(a, b)
		asItWas(t, "a pair's first", a, keptA)
		asItWas(t, "a pair's second", b, keptB)
		for i := range ops[:cap(ops)] {
			ops[:cap(ops)][i] = api.Op{Switch: 9}
		}
		again, _ := Diff(a, b)
		spoil(a)
		spoil(b)
		if !slices.Equal(again, want) {
			t.Fatalf("Diff(%v, %v): %v, then %v", keptA, keptB, want, again)
		}
	}
}

// TestOneTableTwice: both tables may be one and the same.
func TestOneTableTwice(t *testing.T) {
	for n := range 13 {
		l := distinct(n)
		sameIs(t, l, l, true)
		diffIs(t, l, l, nil)
		roomIs(t, l, l, n)
	}
}
