package change

import (
	"math/rand"
	"slices"
	"testing"

	"railpoint/api"
)

// someRule is a right rule out of few, so that many are equal, or have one Prio and Cube.
func someRule(r *rand.Rand) api.Rule {
	x := api.Rule{Prio: r.Intn(3), Out: r.Intn(3)}
	x.Cube.Mask = 8 * r.Intn(2)
	x.Cube.Bits = r.Intn(16) & x.Cube.Mask
	if x.Out > 0 {
		x.Set = r.Intn(2)
	}
	return x
}

// someTable has none, or some, or as many rules as may be.
func someTable(r *rand.Rand) api.Table {
	var t api.Table
	for range r.Intn(8) {
		if x := someRule(r); place(t, x) < 0 {
			t = append(t, x)
		}
	}
	full := r.Intn(8) == 0
	for i := 50; full && len(t) < 12; i++ {
		t = append(t, api.Rule{Prio: i})
	}
	return t
}

func someNet(r *rand.Rand) api.Net {
	n := bare(make([]api.Table, r.Intn(6)+1)...)
	for i := range n.Tables {
		n.Tables[i] = someTable(r)
	}
	return n
}

// someOp is mostly one that could be done.
func someOp(r *rand.Rand, n api.Net) api.Op {
	a := r.Intn(n.Topo.Switches) + 1
	o := api.Op{Switch: a, Add: r.Intn(2) == 0, Rule: someRule(r)}
	if t := n.Tables[a-1]; !o.Add && len(t) > 0 {
		o.Rule = t[r.Intn(len(t))]
	}
	switch r.Intn(40) {
	case 0:
		o.Switch = []int{0, -1, n.Topo.Switches + 1}[r.Intn(3)]
	case 1:
		o.Rule.Value = 2
	case 2:
		o.Rule.Prio = 100
	}
	return o
}

// place is where the rule with the Prio and Cube of x stands, -1 if there is none.
func place(t api.Table, x api.Rule) int {
	return slices.IndexFunc(t, func(y api.Rule) bool { return y.Prio == x.Prio && y.Cube == x.Cube })
}

// doneByHand does one Op, in the words of the chapters, on a net whose lists are its own.
func doneByHand(n api.Net, o api.Op) api.Errno {
	if o.Switch < 1 || o.Switch > len(n.Tables) || o.Rule.Prio == 100 {
		return api.ErrRange
	}
	if o.Rule.Value == 2 {
		return api.ErrShape
	}
	t := n.Tables[o.Switch-1]
	i := place(t, o.Rule)
	switch {
	case o.Add && i >= 0:
		return api.ErrClash
	case o.Add && len(t) == 12:
		return api.ErrFull
	case o.Add:
		n.Tables[o.Switch-1] = append(t, o.Rule)
	case i < 0 || t[i] != o.Rule:
		return api.ErrNone
	default:
		n.Tables[o.Switch-1] = slices.Delete(t, i, i+1)
	}
	return api.OK
}

// appliedByHand has what Apply is to answer.
func appliedByHand(n api.Net, l []api.Op) (api.Net, api.Errno) {
	out := bare(make([]api.Table, len(n.Tables))...)
	for i, t := range n.Tables {
		out.Tables[i] = append(api.Table(nil), t...)
	}
	for _, o := range l {
		if fault := doneByHand(out, o); fault != api.OK {
			return api.Net{}, fault
		}
	}
	return out, api.OK
}

// sameByHand tells whether two right nets of that many bare switches have the same rules.
func sameByHand(a, b api.Net) bool {
	if len(a.Tables) != len(b.Tables) {
		return false
	}
	rules := map[api.Op]int{}
	for i := range a.Tables {
		for _, r := range a.Tables[i] {
			rules[api.Op{Switch: i, Rule: r}]++
		}
		for _, r := range b.Tables[i] {
			rules[api.Op{Switch: i, Rule: r}]--
		}
	}
	for _, n := range rules {
		if n != 0 {
			return false
		}
	}
	return true
}

// TestOpsAsByHand: and there and back it is as it was.
func TestOpsAsByHand(t *testing.T) {
	r := rand.New(rand.NewSource(9))
	told := map[api.Errno]int{}
	for range 20000 {
		n := someNet(r)
		var l []api.Op
		for range r.Intn(6) {
			l = append(l, someOp(r, n))
		}
		want, fault := appliedByHand(n, l)
		told[fault]++
		applyIs(t, n, l, want, fault)
		if fault == api.OK {
			back, err := Apply(want, Turn(l))
			if err != nil || !sameByHand(back, n) {
				t.Errorf("%v behind %v and Turn of them: %v, %v", n, l, back, err)
			}
			sameIs(t, back, n, true, api.OK)
			sameIs(t, want, n, sameByHand(want, n), api.OK)
		}
		turned := Turn(l)
		for i, o := range l {
			if x := turned[len(l)-1-i]; x.Add == o.Add || x.Switch != o.Switch || x.Rule != o.Rule {
				t.Errorf("Turn(%v): %v", l, turned)
			}
		}
		if t.Failed() {
			t.FailNow()
		}
	}
	for _, e := range []api.Errno{api.OK, api.ErrRange, api.ErrShape, api.ErrClash, api.ErrFull, api.ErrNone} {
		if told[e] < 200 {
			t.Errorf("%v came %d times only", e, told[e])
		}
	}
}

// diffByHand of two right nets of as many switches.
func diffByHand(a, b api.Net) []api.Op {
	var out []api.Op
	for i := range a.Tables {
		for _, r := range a.Tables[i] {
			if !slices.Contains(b.Tables[i], r) {
				out = append(out, api.Op{Switch: i + 1, Rule: r})
			}
		}
		for _, r := range b.Tables[i] {
			if !slices.Contains(a.Tables[i], r) {
				out = append(out, api.Op{Switch: i + 1, Add: true, Rule: r})
			}
		}
	}
	return out
}

// TestTwoNetsAsByHand: and behind what Diff tells the one is the Same as the other.
func TestTwoNetsAsByHand(t *testing.T) {
	r := rand.New(rand.NewSource(90))
	same, other := 0, 0
	for range 20000 {
		a, b := someNet(r), someNet(r)
		if r.Intn(2) == 0 {
			b, _ = appliedByHand(a, nil)
			for _, x := range b.Tables {
				r.Shuffle(len(x), func(i, j int) { x[i], x[j] = x[j], x[i] })
			}
			if i := r.Intn(len(b.Tables)); r.Intn(2) == 0 {
				b.Tables[i] = someTable(r)
			}
		}
		sameIs(t, a, b, sameByHand(a, b), api.OK)
		if len(a.Tables) != len(b.Tables) {
			other++
			diffIs(t, a, b, nil, api.ErrShape)
			continue
		}
		if sameByHand(a, b) {
			same++
		}
		l := diffByHand(a, b)
		diffIs(t, a, b, l, api.OK)
		n, err := Apply(a, l)
		if err != nil || !sameByHand(n, b) {
			t.Errorf("%v behind its Diff to %v: %v, %v", a, b, n, err)
		}
		sameIs(t, n, b, true, api.OK)
		if t.Failed() {
			t.FailNow()
		}
	}
	if same < 1000 || other < 1000 {
		t.Errorf("%d the same, %d of another topology: too few to tell", same, other)
	}
}
