package plan

import (
	"reflect"
	"slices"
	"testing"

	"railpoint/api"
	"railpoint/plain"
)

// roomy has a list with things behind its length.
func roomy[E any](l []E, behind E) []E {
	return append(slices.Clip(slices.Clone(l)), behind, behind)[:len(l)]
}

// roomyLists has lists of lists, of which each has things behind its length.
func roomyLists[L ~[]E, E any](l []L, behind E) []L {
	out := make([]L, 0, len(l)+1)
	for _, x := range l {
		out = append(out, roomy(x, behind))
	}
	return append(out, L{behind})[:len(l)]
}

// given is what a call is handed. What lies behind the lengths of its lists would be faults if it counted.
type given struct {
	a, b api.Net
	w    []api.Wish
	l    []api.Round
}

func roomyNet(n api.Net) api.Net {
	return api.Net{
		Topo: api.Topo{Switches: n.Topo.Switches, Links: roomy(n.Topo.Links, link(9, 9, 9, 9)), Hosts: roomy(n.Topo.Hosts, host("Wrong", 9, 9))},
		// An empty table stays one, though rules lie behind it.
		Tables: roomyLists(n.Tables, api.Rule{Prio: -7, Out: 77}),
	}
}

// roomy has the same, with things behind the length of each list.
func (g given) roomy() given {
	return given{roomyNet(g.a), roomyNet(g.b), roomy(g.w, api.Wish{What: -9}), roomyLists(g.l, api.Op{Switch: -9})}
}

// lists has all lists of what is handed in, each as long as there is room.
func (g given) lists() []any {
	var out []any
	for _, n := range []api.Net{g.a, g.b} {
		out = append(out, n.Topo.Links[:cap(n.Topo.Links)], n.Topo.Hosts[:cap(n.Topo.Hosts)], n.Tables[:cap(n.Tables)])
		for _, t := range n.Tables[:cap(n.Tables)] {
			out = append(out, t[:cap(t)])
		}
	}
	out = append(out, g.w[:cap(g.w)], g.l[:cap(g.l)])
	for _, r := range g.l[:cap(g.l)] {
		out = append(out, r[:cap(r)])
	}
	return out
}

// copied has copies of lists, that show what they had.
func copied(lists []any) []any {
	var out []any
	for _, l := range lists {
		v := reflect.ValueOf(l)
		c := reflect.MakeSlice(v.Type(), v.Len(), v.Len())
		reflect.Copy(c, v)
		out = append(out, c.Interface())
	}
	return out
}

// spoil writes over lists: nothing is left of what they had.
func spoil(lists []any) {
	for _, l := range lists {
		reflect.ValueOf(l).Clear()
	}
}

// roundLists has all lists of what came out, each as long as there is room.
func roundLists(l []api.Round) []any {
	var out []any
	for _, r := range l {
		out = append(out, r[:cap(r)])
	}
	return append(out, l[:cap(l)])
}

// someGiven has what calls of all kinds are handed: right, broken, and wrong somewhere.
func someGiven() []given {
	var out []given
	a, b := detour()
	c, d := judged(2, []int{1, 3}, []int{4}, []int{1, 4})
	c.Tables[1], d.Tables[1] = append(c.Tables[1], tab("1 **** drop")...), append(tab("1 **** drop"), d.Tables[1]...)
	e, f := judgedByAll(5, []int{2, 3}, []int{1, 2, 3, 4}, []int{5}, []int{4, 5}, []int{1, 2, 4, 5})
	for _, pair := range [][2]api.Net{{a, b}, {b, a}, {a, a}, {c, d}, {d, c}, {e, f}, {a, d}, {a, wrongNets()[12].net}} {
		for _, w := range append(someWishes(), wishes(reach("ann", "bob"))) {
			out = append(out, given{pair[0], pair[1], w, nil}, given{pair[0], pair[1], w, flip(21)})
			for _, l := range [][]api.Round{inSets(a, b, []int{1}, []int{2}), inSets(c, d, []int{3}, []int{5}, []int{1, 4}), flip(3)} {
				out = append(out, given{pair[0], pair[1], w, l}, given{pair[0], pair[1], w, append(l, api.Round{{Switch: 9}})})
			}
		}
	}
	return out
}

// answers is what the three calls have to say.
type answers struct {
	plan, least      []api.Round
	n                int
	first, next, own api.Errno
}

func (g given) ask() answers {
	x, first := Plan(g.a, g.b, g.w)
	y, next := Least(g.a, g.b, g.w)
	n, own := Verify(g.a, g.b, g.w, g.l)
	return answers{x, y, n, plain.Told(first), plain.Told(next), plain.Told(own)}
}

// TestWhatIsHandedInIsAsItWas: what lies behind its length as well, which does not count.
func TestWhatIsHandedInIsAsItWas(t *testing.T) {
	told := map[api.Errno]int{}
	for _, g := range someGiven() {
		want := g.ask()
		roomy := g.roomy()
		lists := roomy.lists()
		was := copied(lists)
		if got := roomy.ask(); !reflect.DeepEqual(got, want) {
			t.Errorf("%v: %v, want %v", g, got, want)
		}
		if !reflect.DeepEqual(lists, was) || !reflect.DeepEqual(roomy.lists(), was) {
			t.Errorf("what was handed in is now %v, was %v", lists, was)
		}
		told[want.first]++
		told[want.own]++
	}
	for _, fault := range []api.Errno{api.OK, api.ErrBroken, api.ErrState, api.ErrFull, api.ErrNone, api.ErrRange, api.ErrShape} {
		if told[fault] == 0 {
			t.Errorf("%v was never told: %v", fault, told)
		}
	}
}

// TestWhatComesOutIsFresh: what is done to it is not seen in what was handed in, nor the other way round, nor is any of it
// kept.
func TestWhatComesOutIsFresh(t *testing.T) {
	for _, g := range someGiven() {
		want := g.ask()
		roomy := g.roomy()
		lists := roomy.lists()
		was := copied(lists)
		got := roomy.ask()
		spoil(roundLists(got.plan))
		spoil(roundLists(got.least))
		if !reflect.DeepEqual(lists, was) {
			t.Errorf("spoiling what came out made %v of %v", lists, was)
		}
		got = roomy.ask()
		spoil(lists)
		if !reflect.DeepEqual(got, want) {
			t.Errorf("%v hangs on what was handed in: %v, want %v", g, got, want)
		}
	}
}

// TestRoundsShareNoMemory: one is not another one, nor lies behind it.
func TestRoundsShareNoMemory(t *testing.T) {
	most := 0
	for _, g := range someGiven() {
		for _, call := range []planner{Plan, Least} {
			want, _ := call(g.a, g.b, g.w)
			most = max(most, len(want))
			for i := range want {
				got, _ := call(g.a, g.b, g.w)
				_ = append(got[i], make([]api.Op, 20)...)
				clear(got[i][:cap(got[i])])
				for j := range got {
					if j != i && !slices.Equal(got[j], want[j]) {
						t.Errorf("the Rounds %d and %d share memory: %v", i, j, got)
					}
				}
			}
		}
	}
	if most < 3 {
		t.Errorf("at most %d Rounds came out", most)
	}
}
