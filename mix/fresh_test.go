package mix

import (
	"reflect"
	"slices"
	"strings"
	"testing"
	"unsafe"

	"railpoint/api"
	"railpoint/plain"
)

// roomyNet has a net all of whose lists have things behind their length, which would be faults if they counted.
func roomyNet(n api.Net) api.Net {
	bad := api.Rule{Prio: -7, Out: 77}
	n.Topo.Links = append(slices.Clone(n.Topo.Links), link(9, 9, 9, 9))[:len(n.Topo.Links)]
	n.Topo.Hosts = append(slices.Clone(n.Topo.Hosts), host("Wrong", 9, 9))[:len(n.Topo.Hosts)]
	tables := make([]api.Table, 0, len(n.Tables)+1)
	for _, t := range n.Tables {
		tables = append(tables, append(slices.Clone(t), bad, bad)[:len(t)])
	}
	n.Tables = append(tables, api.Table{bad})[:len(n.Tables)]
	return n
}

// whole has all of a net, what lies behind the lengths of its lists as well.
func whole(n api.Net) api.Net {
	n.Topo.Links = slices.Clone(n.Topo.Links[:cap(n.Topo.Links)])
	n.Topo.Hosts = slices.Clone(n.Topo.Hosts[:cap(n.Topo.Hosts)])
	tables := make([]api.Table, 0, cap(n.Tables))
	for _, t := range n.Tables[:cap(n.Tables)] {
		tables = append(tables, slices.Clone(t[:cap(t)]))
	}
	n.Tables = tables
	return n
}

// roomy has a list with others behind its length.
func roomy[E any](l []E, behind E) []E {
	return append(slices.Clip(slices.Clone(l)), behind, behind)[:len(l)]
}

// spoil writes over a list, and over what lies behind its length.
func spoil[E any](l []E, with E) {
	for i := range l[:cap(l)] {
		l[:cap(l)][i] = with
	}
}

// spoilNet writes over all lists of a net.
func spoilNet(n api.Net) {
	spoil(n.Topo.Links, link(-5, -5, -5, -5))
	spoil(n.Topo.Hosts, host("Spoilt", -5, -5))
	for _, t := range n.Tables {
		spoil(t, api.Rule{Prio: -5})
	}
	spoil(n.Tables, api.Table{{Prio: -5}})
}

// asked is what the three calls are given.
type asked struct {
	net    api.Net
	l      []api.Op
	name   string
	header int
	w      []api.Wish
}

// someAsked has calls of all kinds: that are right, that are broken, and that are wrong somewhere.
func someAsked() []asked {
	var out []asked
	for _, young := range []string{"out 1", "out 4", "drop"} {
		x, l := detour(young)
		for _, ops := range [][]api.Op{nil, l[:2], l[2:], l, append(slices.Clone(l), api.Op{Switch: 4}), append(slices.Clone(l), l...)} {
			for _, w := range [][]api.Wish{nil, {loops()}, {apart("cy", "ann"), reach("ann", "cy"), reach("bob", "cy")}, {reach("dan", "ann")}, {{}}} {
				out = append(out, asked{x, ops, "ann", 6, w}, asked{x, ops, "dan", 6, w}, asked{x, ops, "bob", -1, w})
			}
		}
	}
	wrong, l := detour("out 1")
	wrong.Tables[1] = tab("1 **** drop", "1 **** drop")
	return append(out, asked{wrong, l, "ann", 6, wishes(loops())})
}

func TestWhatIsHandedInIsAsItWas(t *testing.T) {
	for _, c := range someAsked() {
		n, l, w := roomyNet(c.net), roomy(c.l, api.Op{Switch: -9}), roomy(c.w, api.Wish{What: -9})
		wasNet, wasOps, wasWishes := whole(n), slices.Clone(l[:cap(l)]), slices.Clone(w[:cap(w)])
		wantFates, wantFault := Seen(c.net, c.l, c.name, c.header)
		if got, err := Seen(n, l, c.name, c.header); !sameFates(got, wantFates) || plain.Told(err) != plain.Told(wantFault) {
			t.Errorf("Seen of %v: %v, %v, want %v, %v", c, got, err, wantFates, wantFault)
		}
		wantProof, wantFault := Safe(c.net, c.l, c.w)
		safeIs(t, n, l, w, wantProof, plain.Told(wantFault))
		touchedAre(t, l, Touched(c.l)...)
		if !reflect.DeepEqual(whole(n), wasNet) {
			t.Errorf("the net is now %v, was %v", whole(n), wasNet)
		}
		if !slices.Equal(l[:cap(l)], wasOps) {
			t.Errorf("the Ops are now %v, were %v", l[:cap(l)], wasOps)
		}
		if !slices.Equal(w[:cap(w)], wasWishes) {
			t.Errorf("the wishes are now %v, were %v", w[:cap(w)], wasWishes)
		}
	}
}

// TestWhatComesOutIsFresh: what is done to it is not seen in what was handed in, nor the other way round.
func TestWhatComesOutIsFresh(t *testing.T) {
	for _, c := range someAsked() {
		want, _ := Seen(c.net, c.l, c.name, c.header)
		proof, _ := Safe(c.net, c.l, c.w)
		n, l, w := roomyNet(c.net), roomy(c.l, api.Op{Switch: -9}), roomy(c.w, api.Wish{What: -9})
		wasNet, wasOps := whole(n), slices.Clone(l[:cap(l)])
		got, _ := Seen(n, l, c.name, c.header)
		for _, f := range got {
			spoil(f.Hops, api.Hop{Header: -5})
		}
		spoil(got, api.Fate{How: -5})
		spoil(Touched(l), -5)
		if !reflect.DeepEqual(whole(n), wasNet) || !slices.Equal(l[:cap(l)], wasOps) {
			t.Errorf("spoiling what came out made %v and %v of %v and %v", whole(n), l[:cap(l)], wasNet, wasOps)
		}
		got, _ = Seen(n, l, c.name, c.header)
		told, _ := Safe(n, l, w)
		switches, touched := Touched(c.l), Touched(l)
		spoilNet(n)
		spoil(l, api.Op{Switch: -5})
		spoil(w, api.Wish{What: -5})
		if !sameFates(got, want) || told != proof || !slices.Equal(touched, switches) {
			t.Errorf("%v hangs on what was handed in: %v, %v, %v", c, got, told, touched)
		}
	}
}

// TestFatesShareNoMemory: the hops of one are not those of another one, nor lie behind them, nor are they kept.
func TestFatesShareNoMemory(t *testing.T) {
	x, l := detour("out 1")
	want, _ := Seen(x, l, "ann", 6)
	if len(want) != 4 {
		t.Fatalf("there are to be several: %v", want)
	}
	for i := range want {
		got, _ := Seen(x, l, "ann", 6)
		spoil(got[i].Hops, api.Hop{Header: -5})
		_ = append(got[i].Hops, hops(9, 9, 9, 9, 9, 9, 9, 9, 9)...)
		for j := range got {
			if j != i && !sameFate(got[j], want[j]) {
				t.Errorf("the fates %d and %d share memory: %v", i, j, got)
			}
		}
		seenAre(t, x, l, "ann", 6, want...)
	}
}

// TestNamesThatComeOutAreFresh: the text of which a name is a piece is not held on to.
func TestNamesThatComeOutAreFresh(t *testing.T) {
	name := strings.Repeat("sender", 1000)[6:12]
	x := single("10 **** out 4")
	x.Topo.Hosts[0].Name = name
	for _, l := range [][]api.Op{nil, ops(add(1, "20 **** drop")), swap(1, "10 **** out 4", "10 **** out 4 set 1***")} {
		got, err := Seen(x, l, name, 0)
		if err != nil || got[0].Host != "sender" || unsafe.StringData(got[0].Host) == unsafe.StringData(name) {
			t.Errorf("the host of %v, %v is the one that was handed in", got, err)
		}
		p, err := Safe(x, l, wishes(apart(name, name)))
		if plain.Told(err) != api.ErrBroken || p.From != "sender" || unsafe.StringData(p.From) == unsafe.StringData(name) {
			t.Errorf("the name of %v, %v is the one that was handed in", p, err)
		}
	}
}

// TestAnswersHangOnArgumentsAlone: what was asked before is not to be told from what is answered now.
func TestAnswersHangOnArgumentsAlone(t *testing.T) {
	for range 3 {
		TestTouched(t)
		TestSeenTwiceAtASwitch(t)
		TestSeenOfEachHow(t)
		TestSafeBrokenOnlyMeanwhile(t)
		TestSafeOfWrongWishes(t)
		TestSafeFirstWish(t)
	}
}
