package wish

import (
	"math"
	"reflect"
	"slices"
	"testing"

	"railpoint/api"
)

// hops has a hop at each of some switches.
func hops(switches ...int) []api.Hop {
	var l []api.Hop
	for i, a := range switches {
		l = append(l, api.Hop{At: spot(a, i%4+1), Header: i % 16})
	}
	return l
}

func fitsIs(t *testing.T, w api.Wish, from string, f api.Fate, want bool) {
	t.Helper()
	if got := Fits(w, from, f); got != want {
		t.Errorf("Fits(%v, %q, %v): %v", w, from, f, got)
	}
}

func arrived(name string, l []api.Hop) api.Fate {
	return api.Fate{How: api.Arrived, Host: name, Hops: l}
}

// elsewhere has fates that do not arrive at bob, a looped one among them.
func elsewhere(l []api.Hop) []api.Fate {
	return []api.Fate{arrived("ann", l), arrived("cy", l), {How: api.Dropped, Hops: l}, {How: api.Lost, Hops: l}, {How: api.Looped, Hops: l}}
}

var ways = [][]int{{1}, {2}, {1, 2}, {2, 1}, {1, 3, 2}, {3, 1, 3, 2}, {1, 4, 5, 6, 2}, nil}

func TestFitsReach(t *testing.T) {
	for _, l := range ways {
		fitsIs(t, reach("ann", "bob"), "ann", arrived("bob", hops(l...)), true)
		for _, f := range elsewhere(hops(l...)) {
			fitsIs(t, reach("ann", "bob"), "ann", f, false)
		}
		fitsIs(t, reach("ann", "ann"), "ann", arrived("ann", hops(l...)), true)
		fitsIs(t, reach("ann", "ann"), "ann", arrived("bob", hops(l...)), false)
	}
}

func TestFitsApart(t *testing.T) {
	for _, l := range ways {
		fitsIs(t, apart("ann", "bob"), "ann", arrived("bob", hops(l...)), false)
		for _, f := range elsewhere(hops(l...)) {
			fitsIs(t, apart("ann", "bob"), "ann", f, true)
		}
		fitsIs(t, apart("ann", "ann"), "ann", arrived("ann", hops(l...)), false)
		fitsIs(t, apart("ann", "ann"), "ann", arrived("bob", hops(l...)), true)
	}
}

// TestFitsWay: only of what arrives is it asked whether it has been there, at whichever hop.
func TestFitsWay(t *testing.T) {
	for _, l := range ways {
		for via := 1; via <= 6; via++ {
			fitsIs(t, way("ann", "bob", via), "ann", arrived("bob", hops(l...)), slices.Contains(l, via))
			fitsIs(t, way("bob", "bob", via), "bob", arrived("bob", hops(l...)), slices.Contains(l, via))
			for _, f := range elsewhere(hops(l...)) {
				fitsIs(t, way("ann", "bob", via), "ann", f, true)
			}
		}
	}
	// It is the switch of a hop that counts, not its port or header.
	f := arrived("bob", []api.Hop{{At: spot(1, 2), Header: 2}})
	fitsIs(t, way("ann", "bob", 2), "ann", f, false)
	fitsIs(t, way("ann", "bob", 1), "ann", f, true)
}

// TestFitsLoops: of whoever sent it.
func TestFitsLoops(t *testing.T) {
	for _, from := range []string{"ann", "bob", "cy", "dan", ""} {
		for _, l := range ways {
			for _, f := range elsewhere(hops(l...)) {
				fitsIs(t, loops(), from, f, f.How != api.Looped)
			}
			fitsIs(t, loops(), from, arrived("bob", hops(l...)), true)
		}
	}
}

// TestFitsOfOthers: a wish that is not about who sent it is broken by nothing.
func TestFitsOfOthers(t *testing.T) {
	for _, from := range []string{"bob", "cy", "dan", "", "an", "annn", "Ann"} {
		for _, l := range ways {
			for _, f := range append(elsewhere(hops(l...)), arrived("bob", hops(l...)), arrived(from, hops(l...)), api.Fate{}) {
				for _, to := range []string{"ann", "bob", "cy", from, ""} {
					fitsIs(t, reach("ann", to), from, f, true)
					fitsIs(t, apart("ann", to), from, f, true)
					fitsIs(t, way("ann", to, 5), from, f, true)
				}
			}
		}
	}
}

// TestFitsOfWhatIsNone: wishes and fates that are none are asked as they stand, and nothing panics.
func TestFitsOfWhatIsNone(t *testing.T) {
	for _, what := range []int{0, 5, -1, math.MinInt, math.MaxInt} {
		for _, f := range append(elsewhere(nil), arrived("bob", hops(1)), api.Fate{}) {
			fitsIs(t, api.Wish{What: what, From: "ann", To: "bob", Via: 3}, "ann", f, true)
		}
	}
	for _, how := range []int{0, 5, -1, math.MinInt, math.MaxInt} {
		f := api.Fate{How: how, Host: "bob", Hops: hops(1)}
		fitsIs(t, reach("ann", "bob"), "ann", f, false)
		fitsIs(t, apart("ann", "bob"), "ann", f, true)
		fitsIs(t, way("ann", "bob", 2), "ann", f, true)
		fitsIs(t, loops(), "ann", f, true)
	}
	// Where a host is named, but it did not arrive, it did not arrive there.
	for _, how := range []int{api.Dropped, api.Lost, api.Looped} {
		f := api.Fate{How: how, Host: "bob", Hops: hops(1)}
		fitsIs(t, reach("ann", "bob"), "ann", f, false)
		fitsIs(t, apart("ann", "bob"), "ann", f, true)
		fitsIs(t, way("ann", "bob", 2), "ann", f, true)
	}
	fitsIs(t, reach("", ""), "", api.Fate{}, false)
	fitsIs(t, reach("", ""), "", api.Fate{How: api.Arrived}, true)
	fitsIs(t, way("", "", 0), "", api.Fate{How: api.Arrived}, false)
	fitsIs(t, apart("", ""), "", api.Fate{How: api.Arrived}, false)
}

// TestFatesAreAsTheyWere: what lies behind their hops is neither asked nor written.
func TestFatesAreAsTheyWere(t *testing.T) {
	room := hops(1, 2, 3)
	f := arrived("bob", room[:2])
	fitsIs(t, way("ann", "bob", 3), "ann", f, false)
	fitsIs(t, way("ann", "bob", 2), "ann", f, true)
	fitsIs(t, reach("ann", "bob"), "ann", f, true)
	fitsIs(t, apart("ann", "bob"), "ann", f, false)
	fitsIs(t, loops(), "ann", f, true)
	if !reflect.DeepEqual(room, hops(1, 2, 3)) || !reflect.DeepEqual(f, arrived("bob", hops(1, 2))) {
		t.Errorf("the hops are now %v, the fate %v", room, f)
	}
}
