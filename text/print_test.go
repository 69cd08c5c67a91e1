package text

import (
	"math"
	"slices"
	"strconv"
	"strings"
	"testing"

	"railpoint/api"
	"railpoint/net"
	"railpoint/plain"
	"railpoint/wish"
)

func spot(a, port int) api.Spot { return api.Spot{Switch: a, Port: port} }

func link(a, ap, b, bp int) api.Link { return api.Link{A: spot(a, ap), B: spot(b, bp)} }

func host(name string, a, port int) api.Host { return api.Host{Name: name, At: spot(a, port)} }

func reach(from, to string) api.Wish { return api.Wish{What: 1, From: from, To: to} }

func apart(from, to string) api.Wish { return api.Wish{What: 2, From: from, To: to} }

func way(from, to string, via int) api.Wish { return api.Wish{What: 3, From: from, To: to, Via: via} }

func loops() api.Wish { return api.Wish{What: 4} }

// bare is a net with nothing but switches.
func bare(switches int) api.Net {
	return api.Net{Topo: api.Topo{Switches: switches}, Tables: make([]api.Table, min(max(switches, 0), 8))}
}

// drop, out and set are the ways a rule can be shown.
func drop(prio, mask, bits int) api.Rule {
	return api.Rule{Prio: prio, Cube: api.Cube{Mask: mask, Bits: bits}}
}

func out(prio, mask, bits, port int) api.Rule {
	return api.Rule{Prio: prio, Cube: api.Cube{Mask: mask, Bits: bits}, Out: port}
}

func set(prio, mask, bits, port, of, value int) api.Rule {
	return api.Rule{Prio: prio, Cube: api.Cube{Mask: mask, Bits: bits}, Out: port, Set: of, Value: value}
}

// pair is a net with wishes.
type pair struct {
	net    api.Net
	wishes []api.Wish
}

// world has all kinds of things, none of them in a rising order.
func world() pair {
	return pair{
		api.Net{
			Topo: api.Topo{
				Switches: 3,
				Links:    []api.Link{link(3, 1, 2, 2), link(1, 1, 2, 1), link(3, 4, 3, 3)},
				Hosts:    []api.Host{host("cy", 3, 2), host("ann", 1, 4), host("abcdef", 2, 4)},
			},
			Tables: []api.Table{
				{out(10, 0, 0, 1), set(99, 10, 8, 4, 15, 9), drop(0, 15, 15)},
				nil,
				{drop(7, 1, 1), out(20, 8, 0, 2), set(20, 8, 8, 1, 1, 0), drop(7, 0, 0)},
			},
		},
		[]api.Wish{loops(), way("cy", "ann", 3), reach("ann", "cy"), apart("abcdef", "abcdef"), loops()},
	}
}

const worldText = "switches 3\n" +
	"link 3.1 2.2\nlink 1.1 2.1\nlink 3.4 3.3\n" +
	"host cy 3.2\nhost ann 1.4\nhost abcdef 2.4\n" +
	"rule 1 10 **** out 1\nrule 1 99 1*0* out 4 set 1001\nrule 1 0 1111 drop\n" +
	"rule 3 7 ***1 drop\nrule 3 20 0*** out 2\nrule 3 20 1*** out 1 set ***0\nrule 3 7 **** drop\n" +
	"loops\nway cy ann 3\nreach ann cy\napart abcdef abcdef\nloops\n"

// greatest has as much of everything as there may be.
func greatest() pair {
	var p pair
	p.net.Topo.Switches = 6
	for a := 1; a <= 6; a++ {
		p.net.Topo.Links = append(p.net.Topo.Links, link(a, 4, a, 3))
		p.net.Topo.Hosts = append(p.net.Topo.Hosts, host(strings.Repeat(string(rune('z'-a)), 6), a, 2))
		var t api.Table
		for prio := 99; prio > 87; prio-- {
			t = append(t, set(prio, 15, a, 4, 15, 15-a))
		}
		p.net.Tables = append(p.net.Tables, t)
	}
	p.net.Topo.Links = append(p.net.Topo.Links, link(6, 1, 5, 1), link(4, 1, 3, 1))
	p.net.Topo.Hosts = append(p.net.Topo.Hosts, host("loops", 2, 1), host("rule", 1, 1))
	p.wishes = slices.Repeat([]api.Wish{way("yyyyyy", "xxxxxx", 6)}, 8)
	return p
}

// shown has nets with wishes that are right, each with its text.
func shown() map[string]pair {
	one, two := bare(1), bare(2)
	one.Topo.Links = []api.Link{link(1, 4, 1, 1)}
	two.Topo.Hosts = []api.Host{host("zed", 2, 1), host("a", 1, 3)}
	ruled := bare(6)
	ruled.Tables[5] = api.Table{drop(0, 0, 0)}
	ruled.Tables[1] = api.Table{out(99, 15, 0, 4), out(9, 15, 0, 4), out(50, 6, 2, 3)}
	return map[string]pair{
		"switches 1\nlink 1.4 1.1\n":             {one, nil},
		"switches 2\nhost zed 2.1\nhost a 1.3\n": {two, nil},
		"switches 6\nrule 2 99 0000 out 4\nrule 2 9 0000 out 4\nrule 2 50 *01* out 3\nrule 6 0 **** drop\n": {ruled, nil},
		"switches 5\nloops\n": {bare(5), []api.Wish{loops()}},
		"switches 2\nhost zed 2.1\nhost a 1.3\nreach zed a\n":          {two, []api.Wish{reach("zed", "a")}},
		"switches 2\nhost zed 2.1\nhost a 1.3\napart a zed\n":          {two, []api.Wish{apart("a", "zed")}},
		"switches 2\nhost zed 2.1\nhost a 1.3\nway a a 2\nway a a 1\n": {two, []api.Wish{way("a", "a", 2), way("a", "a", 1)}},
		"switches 1\nlink 1.4 1.1\nloops\nloops\n":                     {one, []api.Wish{loops(), loops()}},
		worldText: world(),
	}
}

func printIs(t *testing.T, p pair, want string, fault api.Errno) {
	t.Helper()
	got, err := Print(p.net, p.wishes)
	if got != want || plain.Told(err) != fault {
		t.Errorf("Print(%v, %v): %q, %v, want %q, %v", p.net, p.wishes, got, err, want, fault)
	}
}

func TestPrintSwitches(t *testing.T) {
	for n := 1; n <= 6; n++ {
		want := "switches " + strconv.Itoa(n) + "\n"
		printIs(t, pair{bare(n), nil}, want, api.OK)
		printIs(t, pair{bare(n), []api.Wish{}}, want, api.OK)
		empty := bare(n)
		empty.Topo.Links, empty.Topo.Hosts, empty.Tables = []api.Link{}, []api.Host{}, slices.Repeat([]api.Table{{}}, n)
		printIs(t, pair{empty, nil}, want, api.OK)
	}
}

func TestPrint(t *testing.T) {
	for want, p := range shown() {
		printIs(t, p, want, api.OK)
	}
}

// TestPrintLinks: A, then B, whichever is the greater.
func TestPrintLinks(t *testing.T) {
	for a := 1; a <= 2; a++ {
		for port := 1; port <= 4; port++ {
			n := bare(2)
			n.Topo.Links = []api.Link{link(a, port, 3-a, 5-port)}
			want := "switches 2\nlink " + strconv.Itoa(a) + "." + strconv.Itoa(port) + " " + strconv.Itoa(3-a) + "." + strconv.Itoa(5-port) + "\n"
			printIs(t, pair{n, nil}, want, api.OK)
		}
	}
}

// TestPrintGreatest: there is room for the greatest of all nets.
func TestPrintGreatest(t *testing.T) {
	p := greatest()
	got, err := Print(p.net, p.wishes)
	if want := 1 + 8 + 8 + 6*12 + 8; err != nil || strings.Count(got, "\n") != want || !strings.HasSuffix(got, "\nway yyyyyy xxxxxx 6\n") {
		t.Errorf("%q, %v, want %d lines", got, err, want)
	}
	if len(got) > api.MaxText {
		t.Errorf("%d bytes", len(got))
	}
	parseIs(t, got, p, 0, api.OK)
}

// wrongNets has nets of at most two switches with each fault that chapters 3, 5 and 6 name.
func wrongNets() map[api.Errno][]api.Net {
	all := map[api.Errno][]api.Net{
		api.ErrRange: {bare(0), bare(-1), bare(7), bare(math.MinInt), bare(math.MaxInt), {}},
		api.ErrShape: {{Topo: api.Topo{Switches: 2}}, {Topo: api.Topo{Switches: 2}, Tables: make([]api.Table, 1)}, {Topo: api.Topo{Switches: 2}, Tables: make([]api.Table, 3)}},
	}
	add := func(fault api.Errno, change func(n *api.Net)) {
		n := bare(2)
		change(&n)
		all[fault] = append(all[fault], n)
	}
	for _, l := range []api.Link{link(0, 1, 2, 1), link(1, 5, 2, 1), link(1, 1, 3, 1), link(1, 1, 2, 0), link(-1, -1, 1, 1)} {
		add(api.ErrRange, func(n *api.Net) { n.Topo.Links = []api.Link{link(1, 4, 2, 4), l} })
	}
	for _, l := range []api.Link{link(2, 2, 2, 2), link(1, 4, 1, 1), link(1, 1, 2, 4)} {
		add(api.ErrClash, func(n *api.Net) { n.Topo.Links = []api.Link{link(1, 4, 2, 4), l} })
	}
	for _, name := range []string{"", "A", "a b", "abcdefg", "a\n", "ä", "a.", "1"} {
		add(api.ErrSyntax, func(n *api.Net) { n.Topo.Hosts = []api.Host{host("ok", 1, 1), host(name, 1, 2)} })
	}
	add(api.ErrRange, func(n *api.Net) { n.Topo.Hosts = []api.Host{host("a", 3, 1)} })
	add(api.ErrClash, func(n *api.Net) { n.Topo.Hosts = []api.Host{host("a", 1, 1), host("a", 2, 1)} })
	add(api.ErrClash, func(n *api.Net) { n.Topo.Hosts = []api.Host{host("a", 1, 1), host("b", 1, 1)} })
	add(api.ErrFull, func(n *api.Net) { n.Topo.Links = slices.Repeat([]api.Link{link(1, 1, 1, 2)}, 201) })
	add(api.ErrFull, func(n *api.Net) { n.Topo.Hosts = slices.Repeat([]api.Host{host("a", 1, 1)}, 9) })
	add(api.ErrFull, func(n *api.Net) { n.Tables[1] = slices.Repeat(api.Table{drop(1, 0, 0)}, 13) })
	add(api.ErrRange, func(n *api.Net) { n.Tables[1] = api.Table{drop(100, 0, 0)} })
	add(api.ErrRange, func(n *api.Net) { n.Tables[0] = api.Table{out(1, 0, 0, 5)} })
	add(api.ErrShape, func(n *api.Net) { n.Tables[0] = api.Table{drop(1, 1, 2)} })
	add(api.ErrShape, func(n *api.Net) { n.Tables[1] = api.Table{set(1, 0, 0, 0, 1, 1)} })
	add(api.ErrClash, func(n *api.Net) { n.Tables[1] = api.Table{drop(1, 1, 1), out(1, 1, 1, 2)} })
	return all
}

// wrongWishes has lists of wishes with each fault that chapter 8 names, none of which is right in any net of wrongNets.
func wrongWishes() map[api.Errno][][]api.Wish {
	return map[api.Errno][][]api.Wish{
		api.ErrFull:  {slices.Repeat([]api.Wish{loops()}, 9), slices.Repeat([]api.Wish{{}}, 10)},
		api.ErrRange: {{{}}, {loops(), {What: 5}}, {{What: 4, Via: 1}}, {way("ann", "ann", 7)}, {way("cy", "cy", 0)}, {{What: 1, From: "cy", To: "cy", Via: 1}}},
		api.ErrShape: {{{What: 4, From: "cy"}}, {loops(), {What: 4, To: "cy"}}},
		api.ErrNone:  {{reach("no", "cy")}, {loops(), apart("cy", "no")}, {way("", "", 1)}, {reach("Cy", "cy")}},
	}
}

// TestPrintWrong: what is wrong with the net is told, else what is wrong with the wishes, and no text comes out.
func TestPrintWrong(t *testing.T) {
	for fault, nets := range wrongNets() {
		for _, n := range nets {
			printIs(t, pair{n, nil}, "", fault)
			printIs(t, pair{n, []api.Wish{loops()}}, "", fault)
		}
	}
	for fault, lists := range wrongWishes() {
		for _, l := range lists {
			printIs(t, pair{world().net, l}, "", fault)
		}
	}
}

// TestPrintWrongTwice: the net's fault is told ahead of that of the wishes, where they are not the same.
func TestPrintWrongTwice(t *testing.T) {
	apart := 0
	for fault, nets := range wrongNets() {
		for other, lists := range wrongWishes() {
			for _, n := range nets {
				for _, l := range lists {
					printIs(t, pair{n, l}, "", fault)
					if net.Check(n) == nil || wish.Check(bare(2).Topo, l) == nil {
						t.Errorf("one of %v, %v is right", n, l)
					}
				}
			}
			if other != fault {
				apart++
			}
		}
	}
	if apart < 10 {
		t.Errorf("only %d pairs of faults are different", apart)
	}
}

// TestPrintFirstWish: of several wishes what is wrong with the first is told.
func TestPrintFirstWish(t *testing.T) {
	n := world().net
	bad := map[api.Errno]api.Wish{api.ErrRange: {What: 9}, api.ErrShape: {What: 4, To: "cy"}, api.ErrNone: reach("cy", "no")}
	for fault, w := range bad {
		for _, other := range bad {
			printIs(t, pair{n, []api.Wish{loops(), w, other}}, "", fault)
		}
	}
}
