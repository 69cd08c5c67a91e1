package text

import (
	"reflect"
	"slices"
	"strings"
	"testing"
	"unsafe"

	"railpoint/api"
	"railpoint/plain"
)

// roomy has a list with things behind its length.
func roomy[L ~[]E, E any](l L, behind E) L {
	return append(slices.Clip(slices.Clone(l)), behind, behind)[:len(l)]
}

// roomyPair has the same, with things behind the length of each list, which would be faults if they counted.
func roomyPair(p pair) pair {
	bad := api.Rule{Prio: -7, Out: 77}
	x := pair{net: api.Net{Topo: p.net.Topo}}
	x.net.Topo.Links = roomy(p.net.Topo.Links, link(9, 9, 9, 9))
	x.net.Topo.Hosts = roomy(p.net.Topo.Hosts, host("Wrong", 9, 9))
	for _, t := range p.net.Tables {
		x.net.Tables = append(x.net.Tables, roomy(t, bad))
	}
	x.net.Tables = roomy(x.net.Tables, api.Table{bad})
	x.wishes = roomy(p.wishes, api.Wish{What: -9})
	return x
}

// full has copies of all lists, with what lies behind their lengths as well.
func full(p pair) []any {
	out := []any{slices.Clone(p.net.Topo.Links[:cap(p.net.Topo.Links)]), slices.Clone(p.net.Topo.Hosts[:cap(p.net.Topo.Hosts)]), slices.Clone(p.wishes[:cap(p.wishes)])}
	for _, t := range p.net.Tables[:cap(p.net.Tables)] {
		out = append(out, slices.Clone(t[:cap(t)]))
	}
	return out
}

// TestWhatIsHandedInIsAsItWas: what lies behind its length as well, which does not count.
func TestWhatIsHandedInIsAsItWas(t *testing.T) {
	all := []pair{greatest()}
	for _, p := range shown() {
		all = append(all, p)
	}
	for _, nets := range wrongNets() {
		for _, n := range nets {
			all = append(all, pair{n, world().wishes})
		}
	}
	for _, lists := range wrongWishes() {
		for _, l := range lists {
			all = append(all, pair{world().net, l})
		}
	}
	for _, p := range all {
		want, err := Print(p.net, p.wishes)
		x := roomyPair(p)
		was := full(x)
		printIs(t, x, want, plain.Told(err))
		if now := full(x); !reflect.DeepEqual(now, was) {
			t.Errorf("what was handed in is now %v, was %v", now, was)
		}
	}
}

// TestNamesShareNoMemory: names that are parsed are no pieces of the text.
func TestNamesShareNoMemory(t *testing.T) {
	text := strings.Clone(worldText)
	from := uintptr(unsafe.Pointer(unsafe.StringData(text)))
	n, l, _, _ := Parse(text)
	var names []string
	for _, h := range n.Topo.Hosts {
		names = append(names, h.Name)
	}
	for _, w := range l {
		names = append(names, w.From, w.To)
	}
	for _, name := range names {
		at := uintptr(unsafe.Pointer(unsafe.StringData(name)))
		if name != "" && at >= from && at < from+uintptr(len(text)) {
			t.Errorf("%q is a piece of the text", name)
		}
	}
	if len(names) != 3+2*5 {
		t.Errorf("the names are %q", names)
	}
}

// spoil writes over one of the lists, and what lies behind its length.
func spoil(p pair, i int) {
	switch i {
	case 0:
		clear(p.net.Topo.Links[:cap(p.net.Topo.Links)])
	case 1:
		clear(p.net.Topo.Hosts[:cap(p.net.Topo.Hosts)])
	case 2:
		clear(p.wishes[:cap(p.wishes)])
	default:
		t := p.net.Tables[i-3]
		clear(t[:cap(t)])
	}
}

// TestListsShareNoMemory: what is written over one list is not seen in another one, nor in what is parsed of the
// text again.
func TestListsShareNoMemory(t *testing.T) {
	great := greatest()
	text, _ := Print(great.net, great.wishes)
	all := shown()
	all[text] = great
	for text, want := range all {
		for i := range len(want.net.Tables) + 3 {
			n, l, _, _ := Parse(text)
			// A copy all of whose lists are its own.
			left := same(want)
			spoil(pair{n, l}, i)
			spoil(left, i)
			if got := same(pair{n, l}); !reflect.DeepEqual(got, left) {
				t.Errorf("%q: spoiling the list %d left %v, want %v", text, i, got, left)
			}
			parseIs(t, text, want, 0, api.OK)
		}
	}
}

// TestAnswersHangOnArgumentsAlone: what was asked before is not to be told from what is answered now.
func TestAnswersHangOnArgumentsAlone(t *testing.T) {
	for range 3 {
		TestPrint(t)
		TestPrintWrong(t)
		TestThereAndBack(t)
		TestParseBeginning(t)
		TestParseSwitchesOfRules(t)
		TestParseCheck(t)
	}
}
