package class

import (
	"math"
	"reflect"
	"slices"
	"testing"

	"railpoint/api"
	"railpoint/plain"
	"railpoint/rule"
)

// tab is the table of rules that are written out.
func tab(texts ...string) api.Table {
	var t api.Table
	for _, s := range texts {
		r, err := rule.Parse(s)
		if err != nil {
			panic(s)
		}
		t = append(t, r)
	}
	return t
}

// bare is a net of switches that nothing is joined to, one for each table.
func bare(tables ...api.Table) api.Net {
	return api.Net{Topo: api.Topo{Switches: len(tables)}, Tables: tables}
}

// span has the numbers from one to another one.
func span(from, to int) []int {
	var l []int
	for n := from; n <= to; n++ {
		l = append(l, n)
	}
	return l
}

// whole is the one class that has all headers.
func whole() [][]int { return [][]int{span(0, 15)} }

// single has a class for each header.
func single() [][]int {
	var l [][]int
	for h := range 16 {
		l = append(l, []int{h})
	}
	return l
}

func ofIs(t *testing.T, x api.Table, want [][]int, fault api.Errno) {
	t.Helper()
	got, err := Of(x)
	if !reflect.DeepEqual(got, want) || plain.Told(err) != fault {
		t.Errorf("Of(%v): %v, %v, want %v, %v", x, got, err, want, fault)
	}
}

func allIs(t *testing.T, n api.Net, want [][]int, fault api.Errno) {
	t.Helper()
	got, err := All(n)
	if !reflect.DeepEqual(got, want) || plain.Told(err) != fault {
		t.Errorf("All(%v): %v, %v, want %v, %v", n, got, err, want, fault)
	}
}

func repIs(t *testing.T, l [][]int, header, want int, fault api.Errno) {
	t.Helper()
	got, err := Rep(l, header)
	if got != want || plain.Told(err) != fault {
		t.Errorf("Rep(%v, %d): %d, %v, want %d, %v", l, header, got, err, want, fault)
	}
}

func pathIs(t *testing.T, n api.Net, header int, want []int, fault api.Errno) {
	t.Helper()
	got, err := Path(n, header)
	if !reflect.DeepEqual(got, want) || plain.Told(err) != fault {
		t.Errorf("Path(%v, %d): %v, %v, want %v, %v", n, header, got, err, want, fault)
	}
}

// bothAre fails unless those are the classes of a table, and of a net that has it alone, or several times.
func bothAre(t *testing.T, x api.Table, want [][]int) {
	t.Helper()
	ofIs(t, x, want, api.OK)
	allIs(t, bare(x), want, api.OK)
	allIs(t, bare(x, x, x, x, x, x), want, api.OK)
}

func TestOneClassHasAll(t *testing.T) {
	bothAre(t, nil, whole())
	bothAre(t, api.Table{}, whole())
	bothAre(t, tab("10 **** out 1"), whole())
	bothAre(t, tab("0 **** drop"), whole())
	bothAre(t, tab("99 **** out 4 set 1010"), whole())
}

// TestNoneIsALookupToo: those that no rule counts for are in one class, wherever they lie.
func TestNoneIsALookupToo(t *testing.T) {
	bothAre(t, tab("10 0110 out 1"), [][]int{append(span(0, 5), span(7, 15)...), {6}})
	bothAre(t, tab("10 0000 out 1"), [][]int{{0}, span(1, 15)})
	bothAre(t, tab("10 1111 drop"), [][]int{span(0, 14), {15}})
	bothAre(t, tab("10 1*** out 1"), [][]int{span(0, 7), span(8, 15)})
	bothAre(t, tab("10 1*** out 1", "10 00** out 1"), [][]int{span(0, 3), span(4, 7), span(8, 15)})
	bothAre(t, tab("10 **01 drop"), [][]int{{0, 2, 3, 4, 6, 7, 8, 10, 11, 12, 14, 15}, {1, 5, 9, 13}})
}

// TestTheLeastHeaderComesFirst: not the first rule, nor the one with the greatest Prio.
func TestTheLeastHeaderComesFirst(t *testing.T) {
	bothAre(t, tab("10 11** out 1", "20 01** out 2", "30 10** out 3", "40 00** out 4"),
		[][]int{span(0, 3), span(4, 7), span(8, 11), span(12, 15)})
	bothAre(t, tab("40 1111 out 1", "10 **** out 1", "30 0000 out 1", "20 0101 out 1"),
		[][]int{{0}, {1, 2, 3, 4, 6, 7, 8, 9, 10, 11, 12, 13, 14}, {5}, {15}})
	bothAre(t, tab("10 ***1 out 1", "10 ***0 out 1"),
		[][]int{{0, 2, 4, 6, 8, 10, 12, 14}, {1, 3, 5, 7, 9, 11, 13, 15}})
	bothAre(t, tab("10 **** out 1", "20 *1*0 out 1"),
		[][]int{{0, 1, 2, 3, 5, 7, 8, 9, 10, 11, 13, 15}, {4, 6, 12, 14}})
}

// TestRulesThatDoAlikeAreTwo: it hangs on which rule counts, not on what it does.
func TestRulesThatDoAlikeAreTwo(t *testing.T) {
	bothAre(t, tab("10 0*** out 1", "10 1*** out 1"), [][]int{span(0, 7), span(8, 15)})
	bothAre(t, tab("10 0*** drop", "20 1*** drop"), [][]int{span(0, 7), span(8, 15)})
	// One that drops is not the same as none.
	bothAre(t, tab("10 0*** drop"), [][]int{span(0, 7), span(8, 15)})
	bothAre(t, tab("10 **** out 2 set 1111", "10 **11 out 2 set 1111"),
		[][]int{{0, 1, 2, 4, 5, 6, 8, 9, 10, 12, 13, 14}, {3, 7, 11, 15}})
}

// TestRulesThatCountForNoHeader make no class.
func TestRulesThatCountForNoHeader(t *testing.T) {
	bothAre(t, tab("10 0101 out 1", "20 **** out 2"), whole())
	bothAre(t, tab("20 **** out 2", "10 **** out 1", "10 1*** out 3"), whole())
	bothAre(t, tab("10 **** out 1", "10 ***0 out 2", "10 ***1 out 3"),
		[][]int{{0, 2, 4, 6, 8, 10, 12, 14}, {1, 3, 5, 7, 9, 11, 13, 15}})
	bothAre(t, tab("10 1100 out 1", "30 1*** out 2", "20 11** out 2"), [][]int{span(0, 7), span(8, 15)})
}

// TestTheRuleThatCounts: of equal Prios that with the greatest Mask.
func TestTheRuleThatCounts(t *testing.T) {
	bothAre(t, tab("10 *1** out 1", "10 1*** out 2", "10 **** out 3"),
		[][]int{span(0, 3), span(4, 7), span(8, 15)})
	bothAre(t, tab("11 *1** out 1", "10 1*** out 2", "10 **** out 3"),
		[][]int{span(0, 3), append(span(4, 7), span(12, 15)...), span(8, 11)})
}

// dozen has a rule of its own for each of twelve headers.
func dozen(first int) api.Table {
	var t api.Table
	for i := range 12 {
		t = append(t, api.Rule{Prio: 99 - i, Cube: api.Cube{Mask: 15, Bits: (first + i) % 16}, Out: i%4 + 1})
	}
	return t
}

func TestTwelveRules(t *testing.T) {
	bothAre(t, dozen(0), append(single()[:12], span(12, 15)))
	bothAre(t, dozen(4), append([][]int{span(0, 3)}, single()[4:]...))
	bothAre(t, dozen(8), slices.Concat(single()[:4], [][]int{span(4, 7)}, single()[8:]))
	// What the one has in one class the other has apart.
	allIs(t, bare(dozen(0), dozen(8)), single(), api.OK)
}

func TestAllHoldsEachTable(t *testing.T) {
	high, low, odd := tab("10 1*** out 1"), tab("10 *1** out 1"), tab("10 ***1 out 1")
	quarters := [][]int{span(0, 3), span(4, 7), span(8, 11), span(12, 15)}
	allIs(t, bare(high, low), quarters, api.OK)
	allIs(t, bare(low, high), quarters, api.OK)
	allIs(t, bare(high, low, high), quarters, api.OK)
	allIs(t, bare(nil, high, nil, low, nil, nil), quarters, api.OK)
	allIs(t, bare(high, tab("10 01** out 1")), [][]int{span(0, 3), span(4, 7), span(8, 15)}, api.OK)
	allIs(t, bare(high, odd), [][]int{{0, 2, 4, 6}, {1, 3, 5, 7}, {8, 10, 12, 14}, {9, 11, 13, 15}}, api.OK)
	allIs(t, bare(high, low, odd, tab("10 **1* drop")), single(), api.OK)
	allIs(t, bare(nil, nil, nil, nil, nil, tab("10 1111 drop")), [][]int{span(0, 14), {15}}, api.OK)
}

// TestOnePlaceInTwoTables: headers have the same places in all, but not at the same switches.
func TestOnePlaceInTwoTables(t *testing.T) {
	allIs(t, bare(tab("10 0*** out 1", "10 1*** out 1"), tab("10 1*** out 1", "10 0*** out 1")),
		[][]int{span(0, 7), span(8, 15)}, api.OK)
	allIs(t, bare(tab("10 00** out 1"), tab("10 01** out 1"), tab("10 10** out 1")),
		[][]int{span(0, 3), span(4, 7), span(8, 11), span(12, 15)}, api.OK)
}

// TestHowThingsAreJoined makes no odds.
func TestHowThingsAreJoined(t *testing.T) {
	n := world()
	want := [][]int{{0, 1, 2, 3}, {4, 6}, {5, 7}, {8, 9, 10, 11}, {12, 13}, {14}, {15}}
	allIs(t, n, want, api.OK)
	allIs(t, bare(n.Tables...), want, api.OK)
}

func TestRep(t *testing.T) {
	l := [][]int{{0, 2}, {1, 3, 5}, {4}}
	for header, want := range []int{0, 1, 0, 1, 4, 1} {
		repIs(t, l, header, want, api.OK)
	}
	for _, header := range []int{6, 15, 16, -1, math.MinInt, math.MaxInt} {
		repIs(t, l, header, 0, api.ErrNone)
	}
	for header := range 16 {
		repIs(t, whole(), header, 0, api.OK)
		repIs(t, single(), header, header, api.OK)
	}
}

// TestRepOfClassesThatAreNone: whatever they are, the first that has the header tells.
func TestRepOfClassesThatAreNone(t *testing.T) {
	for header := range 10 {
		repIs(t, [][]int{{9, 4, 7, 2, 5, 8}, {3, 6, 0, 1}}, header, []int{0, 0, 2, 0, 2, 2, 0, 2, 2, 2}[header], api.OK)
	}
	repIs(t, [][]int{{5, 3}, {5, 1}, {5}}, 5, 3, api.OK)
	repIs(t, [][]int{{5}, {5, 1}, {1, 0}}, 5, 5, api.OK)
	repIs(t, [][]int{{5}, {5, 1}, {1, 0}}, 1, 1, api.OK)
	repIs(t, [][]int{{7, 7, 7}, {2, 2, 9, 2, 9}}, 9, 2, api.OK)
	repIs(t, [][]int{{7, 7, 7}, {2, 2, 9, 2, 9}}, 7, 7, api.OK)
	// Empty classes are passed over.
	repIs(t, [][]int{{}, nil, {8, 6}, {}}, 8, 6, api.OK)
	repIs(t, [][]int{{}, nil, {8, 6}, {}}, 0, 0, api.ErrNone)
	// One that is not rising tells its last number, or one in its middle, or a header that is not its first.
	repIs(t, [][]int{{15, 14, 13}}, 14, 13, api.OK)
	repIs(t, [][]int{{15, 1, 13}}, 15, 1, api.OK)
	repIs(t, [][]int{{15, 0, 13}}, 13, 0, api.OK)
}

func TestRepOfNoClasses(t *testing.T) {
	for _, l := range [][][]int{nil, {}, {nil}, {{}}, {{}, {}, nil}} {
		for _, header := range []int{0, 1, 15, 16, -1, math.MinInt, math.MaxInt} {
			repIs(t, l, header, 0, api.ErrNone)
		}
	}
}

// TestRepOfNumbersThatAreNoHeaders: they are numbers as good as others, in a class and as what is asked.
func TestRepOfNumbersThatAreNoHeaders(t *testing.T) {
	l := [][]int{{3, -1}, {16, 2}, {math.MaxInt, 1 << 40}, {7, math.MinInt, -5}, {100}, {-9, -8}}
	for _, x := range []struct{ header, want int }{
		{3, -1}, {-1, -1}, {16, 2}, {2, 2}, {math.MaxInt, 1 << 40}, {1 << 40, 1 << 40},
		{7, math.MinInt}, {math.MinInt, math.MinInt}, {-5, math.MinInt}, {100, 100}, {-9, -9}, {-8, -9},
	} {
		repIs(t, l, x.header, x.want, api.OK)
	}
	for _, header := range []int{0, 17, -2, 1<<32 + 3, math.MaxInt - 1, math.MinInt + 1} {
		repIs(t, l, header, 0, api.ErrNone)
	}
	many := slices.Repeat([][]int{slices.Repeat([]int{40, 41}, 1000)}, 100)
	repIs(t, append(many, []int{9, -7}), 9, -7, api.OK)
	repIs(t, many, 9, 0, api.ErrNone)
	repIs(t, many, 41, 40, api.OK)
}

func TestPath(t *testing.T) {
	n := world()
	for header, want := range [][]int{
		{1, 2, 0}, {1, 2, 0}, {1, 2, 0}, {1, 2, 0},
		{0, 1, 0}, {0, 1, 1}, {0, 1, 0}, {0, 1, 1},
		{1, 0, 2}, {1, 0, 2}, {1, 0, 2}, {1, 0, 2},
		{0, 0, 2}, {0, 0, 2}, {3, 0, 2}, {2, 0, 2},
	} {
		pathIs(t, n, header, want, api.OK)
		pathIs(t, bare(n.Tables...), header, want, api.OK)
	}
}

func TestPathWhereNoneCounts(t *testing.T) {
	for n := 1; n <= 6; n++ {
		for header := range 16 {
			pathIs(t, bare(make([]api.Table, n)...), header, slices.Repeat([]int{-1}, n), api.OK)
		}
	}
	x := bare(tab("10 1*** out 1"), nil, tab("5 1111 out 1", "10 0*** drop"))
	pathIs(t, x, 0, []int{-1, -1, 1}, api.OK)
	pathIs(t, x, 7, []int{-1, -1, 1}, api.OK)
	pathIs(t, x, 8, []int{0, -1, -1}, api.OK)
	pathIs(t, x, 15, []int{0, -1, 0}, api.OK)
}

func TestPathHasTheRuleThatCounts(t *testing.T) {
	x := bare(tab("10 **** out 1", "20 **** out 2", "20 1*** out 3"), dozen(0), dozen(8))
	pathIs(t, x, 0, []int{1, 0, 8}, api.OK)
	pathIs(t, x, 3, []int{1, 3, 11}, api.OK)
	pathIs(t, x, 4, []int{1, 4, -1}, api.OK)
	pathIs(t, x, 11, []int{2, 11, 3}, api.OK)
	pathIs(t, x, 15, []int{2, -1, 7}, api.OK)
}

// TestPathIsNoWay: the header is as it came in at each switch, whatever rules set, drop or send elsewhere.
func TestPathIsNoWay(t *testing.T) {
	set, drop := tab("10 0*** out 1 set 1***"), tab("10 **** drop", "20 1*** out 4")
	pathIs(t, bare(set, drop, set), 0, []int{0, 0, 0}, api.OK)
	pathIs(t, bare(set, drop, set), 8, []int{-1, 1, -1}, api.OK)
}
