package text

import (
	"reflect"
	"slices"
	"strconv"
	"strings"
	"testing"

	"railpoint/api"
	"railpoint/plain"
)

// same has a net and wishes of which an empty list and nil are the same.
func same(p pair) pair {
	var x pair
	x.net.Topo.Switches = p.net.Topo.Switches
	x.net.Topo.Links = append(x.net.Topo.Links, p.net.Topo.Links...)
	x.net.Topo.Hosts = append(x.net.Topo.Hosts, p.net.Topo.Hosts...)
	for _, t := range p.net.Tables {
		x.net.Tables = append(x.net.Tables, append(api.Table(nil), t...))
	}
	x.wishes = append(x.wishes, p.wishes...)
	return x
}

func parseIs(t *testing.T, text string, want pair, at int, fault api.Errno) {
	t.Helper()
	n, w, i, err := Parse(text)
	if got := same(pair{n, w}); !reflect.DeepEqual(got, same(want)) || i != at || plain.Told(err) != fault {
		t.Errorf("Parse(%q): %v, %d, %v, want %v, %d, %v", text, got, i, err, want, at, fault)
	}
}

// wrongIs fails unless a text has that fault, at that line.
func wrongIs(t *testing.T, text string, at int, fault api.Errno) {
	t.Helper()
	parseIs(t, text, pair{}, at, fault)
}

// rightIs fails unless a text is read, and printed again as it was.
func rightIs(t *testing.T, text string) {
	t.Helper()
	n, w, at, err := Parse(text)
	if at != 0 || err != nil {
		t.Errorf("Parse(%q): %d, %v", text, at, err)
		return
	}
	printIs(t, pair{n, w}, text, api.OK)
}

// TestThereAndBack: what is printed is parsed as it was.
func TestThereAndBack(t *testing.T) {
	for text, p := range shown() {
		parseIs(t, text, p, 0, api.OK)
	}
	for n := 1; n <= 6; n++ {
		parseIs(t, "switches "+strconv.Itoa(n)+"\n", pair{bare(n), nil}, 0, api.OK)
	}
}

// TestParseFull: how long a text is is asked ahead of all else.
func TestParseFull(t *testing.T) {
	for n, fault := range map[int]api.Errno{2999: api.ErrSyntax, 3000: api.ErrSyntax, 3001: api.ErrFull, 3002: api.ErrFull, 100000: api.ErrFull} {
		at := 0
		if fault == api.ErrSyntax {
			at = 1
		}
		wrongIs(t, strings.Repeat("x", n), 0, fault)
		wrongIs(t, "switches 1\n"+strings.Repeat("x", n-11), at, fault)
		wrongIs(t, "switches 1\n"+strings.Repeat("\n", n-11), at, fault)
		wrongIs(t, "switches 1\nlink 1."+strings.Repeat("1", n-23)+" 1.2\n", at, fault)
		if fault == api.ErrSyntax {
			at = strings.Count(worldText, "\n")
		}
		wrongIs(t, worldText+strings.Repeat(" ", n-len(worldText)), at, fault)
		// Nothing is wrong with the lines here: the name is Check's business.
		wrongIs(t, "switches 1\nhost "+strings.Repeat("a", n-21)+" 1.1\n", 0, fault)
	}
	// Three thousand bytes of lines that are right come to Check, which finds a name twice.
	text := "switches 2\nhost a 1.1\nhost b 1.2\n"
	for len(text)+len("rule 2 10 **** drop\n") <= 3000 {
		text += "rule 2 10 **** drop\n"
	}
	wrongIs(t, text, 0, api.ErrFull)
	wrongIs(t, strings.Replace(text, "b 1.2", "a 1.2", 1), 0, api.ErrClash)
	wrongIs(t, strings.Replace(text, "b 1.2", strings.Repeat("b", 3000-len(text)+1)+" 1.2", 1), 0, api.ErrSyntax)
	wrongIs(t, strings.Replace(text, "b 1.2", strings.Repeat("b", 3000-len(text)+2)+" 1.2", 1), 0, api.ErrFull)
}

// TestParseBeginning: a text begins with switches, and its first line ends.
func TestParseBeginning(t *testing.T) {
	for _, text := range []string{
		"", "\n", " ", "\nswitches 1\n", " switches 1\n", "switches 1", "switches 1\r\n", "switches 1 \n", "switches  1\n", "switches\n", "switches \n",
		"switches1\n", "switches\t1\n", "Switches 1\n", "switch 1\n", "switchess 1\n", "switches 1 2\n", "switches one\n", "switches 1.1\n", "switches",
		"link 1.1 1.2\n", "host a 1.1\n", "rule 1 10 **** drop\n", "loops\n", "reach a a\n", "loops\nswitches 1\n", "rule 1 10 **** drop\nswitches 1\n",
		"1\n", "switches 1loops\n", "# switches 1\n", "\x00switches 1\n", "switches 1\x00\n", "\xef\xbb\xbfswitches 1\n",
	} {
		wrongIs(t, text, 0, api.ErrSyntax)
	}
}

// numbers has words, and whether they are numbers as they are to be written.
var numbers = map[string]bool{
	"0": true, "1": true, "9": true, "10": true, "99": true, "123456789": true, "999999999": true, "100000000": true,
	"1000000000": false, "9999999999": false, "0000000001": false, "4294967297": false, "18446744073709551617": false,
	"00": false, "01": false, "001": false, "000000001": false, "+1": false, "-1": false, "-0": false, "+0": false, "": false,
	"1e0": false, "0x1": false, "1_0": false, "a": false, "1a": false, "a1": false, "1,": false, "١": false, "*": false, "1\x00": false,
}

// TestParseNumbers: what is no number is told at its line; one that is too great, or 0, by Check.
func TestParseNumbers(t *testing.T) {
	for word, is := range numbers {
		for text, at := range map[string]int{
			"switches " + word + "\nloops\n":                      0,
			"switches 1\nlink " + word + ".1 1.2\n":               1,
			"switches 1\nlink 1." + word + " 1.2\n":               1,
			"switches 1\nlink 1.1 " + word + ".2\n":               1,
			"switches 1\nlink 1.1 1.2\nlink 1.3 1." + word + "\n": 2,
			"switches 1\nhost a " + word + ".1\n":                 1,
			"switches 1\nhost b 1.1\nhost a 1." + word + "\n":     2,
		} {
			_, _, i, err := Parse(text)
			switch {
			case !is:
				wrongIs(t, text, at, api.ErrSyntax)
			case err == nil:
				rightIs(t, text)
			case i != 0 || plain.Told(err) == api.ErrSyntax:
				t.Errorf("Parse(%q): %d, %v", text, i, err)
			}
		}
		if is && word != "1" {
			wrongIs(t, "switches "+word+"\n", 0, api.ErrRange)
			wrongIs(t, "switches 1\nlink "+word+".1 1.2\n", 0, api.ErrRange)
			wrongIs(t, "switches 1\nlink 1.1 1."+word+"\n", 0, api.ErrRange)
			wrongIs(t, "switches 1\nhost a "+word+".1\n", 0, api.ErrRange)
			wrongIs(t, "switches 1\nhost a 1."+word+"\n", 0, api.ErrRange)
		}
	}
	for n := range 20 {
		text := "switches " + strconv.Itoa(n) + "\n"
		if n >= 1 && n <= 6 {
			rightIs(t, text)
		} else {
			wrongIs(t, text, 0, api.ErrRange)
		}
	}
}

// noLines has what is no line of any kind, wherever it stands.
var noLines = []string{
	"", " ", "  ", "x", "link", "host", "rule", "reach", "link ", "host ", "rule ", "way ", "net 1", "Link 1.1 1.2", "LINK 1.1 1.2", "linkk 1.1 1.2", "lin 1.1 1.2",
	"links 1.1 1.2", "link  1.1 1.2", "link 1.1  1.2", "link 1.1 1.2 ", " link 1.1 1.2", "link1.1 1.2", "link 1.11.2", "link 1.1", "link 1.1 ", "link  1.1",
	"link 1.1 1.2 1.3", "link 1 1 1 2", "link 1,1 1,2", "link 1.1-1.2", "link 1. 1.2", "link .1 1.2", "link . .", "link 1 2", "link 1.1.1 1.2", "link 1.1 1.2.1", "link 1..1 1.2",
	"link 1.1\t1.2", "link a 1.1", "link 1.1 1.2\r", "link 1.1 1.2\x00", "link 1 .1 1.2", "link 1. 1 1.2",
	"hosts a 1.1", "Host a 1.1", "hos a 1.1", "host  a 1.1", "host a  1.1", "host a 1.1 ", " host a 1.1", "hosta 1.1", "host a1.1", "host 1.1", "host a", "host a ", "host a b 1.1",
	"host a 1.1 b", "host a 1", "host a 1.", "host a .1", "host a 1 1", "host a 1,1", "host a 1.1.1", "host a 1.1\r", "host\ta 1.1", "host a\t1.1", "host   1.1",
	"rules 1 10 **** drop", "Rule 1 10 **** drop", "rul 1 10 **** drop", "rule  1 10 **** drop", "rule 1  10 **** drop", "rule 1 10  **** drop", "rule 1 10 ****  drop",
	"rule 1 10 **** drop ", " rule 1 10 **** drop", "rule1 10 **** drop", "rule 110 **** drop", "rule 1 10**** drop", "rule 1 10 ****drop", "rule 1", "rule 1 ", "rule 1 10", "rule 10 **** drop",
	"rule  10 **** drop", "rule a 10 **** drop", "rule 1.1 10 **** drop", "rule 1 10 **** drop drop", "10 **** drop", "1 10 **** drop", "rule 1 1 10 **** drop",
	"rule 1 100 **** drop", "rule 1 99 **** out 5", "rule 1 1000000000 **** drop", "rule 1 01 **** drop", "rule 1 -1 **** drop", "rule 1 10 *** drop", "rule 1 10 ***** drop", "rule 1 10 ***2 drop",
	"rule 1 10 **** out", "rule 1 10 **** out ", "rule 1 10 **** out 0", "rule 1 10 **** out 01", "rule 1 10 **** out 1 set", "rule 1 10 **** out 1 set ****", "rule 1 10 **** out 1 set 1",
	"rule 1 10 **** drop set 1111", "rule 1 10 **** out 1 1111", "rule 1 10 **** out 1 set 1111 ", "rule 1 10 **** Drop", "rule 1 10 **** drop\r", "rule 1 10 **** 1",
	"rule 0 10 **** drop", "rule 7 10 **** drop", "rule 8 10 **** drop", "rule 10 10 **** drop", "rule 01 10 **** drop", "rule 00 10 **** drop", "rule -1 10 **** drop", "rule +1 10 **** drop",
	"rule 999999999 10 **** drop", "rule 1000000001 10 **** drop", "rule 4294967297 10 **** drop", "rule 18446744073709551617 10 **** drop",
	"loop", "Loops", "loops ", " loops", "loops a", "loops loops", "loops\r", "reach a", "reach a ", "reach a a ", " reach a a", "reach  a a", "reach a  a", "reach a a a", "reach a a 1", "reacha a",
	"Reach a a", "reach A a", "reach a B", "reach abcdefg a", "reach 1 a", "reach a a\t", "apart a", "apart a a 1", "apart a a ", "aparts a a", "way a a", "way a a ", "way a a 0", "way a a 7",
	"way a a 01", "way a a -1", "way a a 1 ", "way a a  1", "way a a 1 1", "way a 1", "ways a a 1", "wish loops", "wish 0 loops", "#", "# a", "\t", "\x00", "\xff", "\r",
}

// TestParseNoLines: the number of the first line that is none is told, whatever stands ahead and behind.
func TestParseNoLines(t *testing.T) {
	parts := strings.SplitAfter(strings.TrimSuffix(worldText, "\n"), "\n")
	parts[len(parts)-1] += "\n"
	for _, no := range noLines {
		for i := range len(parts) + 1 {
			laid := strings.Join(slices.Insert(slices.Clone(parts), i, no+"\n"), "")
			wrongIs(t, laid, i, api.ErrSyntax)
			wrongIs(t, strings.Join(parts[:i], "")+no+"\n"+no+"\n", i, api.ErrSyntax)
			if no != "" {
				wrongIs(t, strings.Join(parts[:i], "")+no, i, api.ErrSyntax)
			}
		}
		wrongIs(t, "switches 1\n"+no+"\n", 1, api.ErrSyntax)
	}
}

// TestParseAhead: a line that is none is told ahead of all that Check could say of the lines ahead, but for a length.
func TestParseAhead(t *testing.T) {
	for _, ahead := range []string{
		"switches 0\n", "switches 7\n", "switches 999999999\n", "switches 1\nlink 2.1 1.1\n", "switches 1\nlink 1.1 1.1\n", "switches 1\nhost A 1.1\n",
		"switches 1\nhost a 1.1\nhost a 1.2\n", "switches 1\nrule 6 10 **** drop\n", "switches 1\nrule 1 10 **** drop\nrule 1 10 **** out 1\n",
		"switches 1\nreach a a\n", "switches 1\n" + strings.Repeat("loops\n", 9), "switches 1\n" + strings.Repeat("link 1.1 1.2\n", 201),
	} {
		for _, no := range []string{"x\n", "\n", "switches 1\n", "loops", " loops\n", "rule 7 10 **** drop\n", "rule 1 100 **** drop\n"} {
			wrongIs(t, ahead+no, strings.Count(ahead, "\n"), api.ErrSyntax)
			wrongIs(t, ahead+no+"y\nz", strings.Count(ahead, "\n"), api.ErrSyntax)
		}
	}
}

// TestParseKinds: kinds of lines stand in their order, switches just once.
func TestParseKinds(t *testing.T) {
	kinds := []string{"switches 2\n", "link 1.1 2.1\n", "host a 1.2\n", "rule 2 10 **** drop\n", "loops\n"}
	other := []string{"switches 2\n", "link 1.3 2.3\n", "host b 1.4\n", "rule 2 20 **** out 1\n", "reach a a\n"}
	for i := range kinds {
		rightIs(t, strings.Join(kinds[:i+1], ""))
		for j := range other {
			text := strings.Join(kinds[:i+1], "") + other[j]
			switch {
			case j == 0 || j < i:
				wrongIs(t, text, i+1, api.ErrSyntax)
				wrongIs(t, text+"loops\n", i+1, api.ErrSyntax)
			case j == 4 && i < 2:
				// The host that it names is not there.
				wrongIs(t, text, 0, api.ErrNone)
			default:
				rightIs(t, text)
			}
		}
		if i > 0 {
			wrongIs(t, kinds[i], 0, api.ErrSyntax)
			wrongIs(t, kinds[i]+kinds[0], 0, api.ErrSyntax)
		}
	}
	// Each kind may be left out.
	for left := range 16 {
		text := kinds[0]
		for i := range 4 {
			if left>>i&1 == 1 {
				text += kinds[i+1]
			}
		}
		rightIs(t, text)
	}
	// Wishes stand as they like.
	rightIs(t, "switches 1\nhost a 1.1\nloops\nway a a 1\napart a a\nreach a a\nloops\n")
}

// TestParseSwitchesOfRules: from 1 to MaxSwitch, however many switches there are, and never falling.
func TestParseSwitchesOfRules(t *testing.T) {
	line := func(a, prio int) string { return "rule " + strconv.Itoa(a) + " " + strconv.Itoa(prio) + " **** drop\n" }
	for n := 1; n <= 6; n++ {
		begin := "switches " + strconv.Itoa(n) + "\n"
		for a := range 9 {
			text := begin + line(a, 1)
			switch {
			case a < 1 || a > 6:
				wrongIs(t, text, 1, api.ErrSyntax)
			case a > n:
				wrongIs(t, text, 0, api.ErrShape)
			default:
				want := bare(n)
				want.Tables[a-1] = api.Table{drop(1, 0, 0)}
				parseIs(t, text, pair{want, nil}, 0, api.OK)
			}
		}
	}
	for a := 1; a <= 6; a++ {
		for b := 1; b <= 6; b++ {
			text := "switches 6\n" + line(a, 9) + line(b, 2)
			if b < a {
				wrongIs(t, text, 2, api.ErrSyntax)
				wrongIs(t, "switches 6\n"+line(1, 1)+line(a, 9)+line(a, 8)+line(b, 2)+"x\n", 4, api.ErrSyntax)
				wrongIs(t, "switches 1\n"+line(a, 9)+line(b, 2), 2, api.ErrSyntax)
			} else {
				rightIs(t, text)
			}
		}
	}
	// A switch that is not there is told behind what is wrong with the topology, ahead of what is wrong with a table.
	wrongIs(t, "switches 2\nhost A 1.1\n"+line(3, 1), 0, api.ErrSyntax)
	wrongIs(t, "switches 2\nlink 1.1 1.1\n"+line(3, 1), 0, api.ErrClash)
	wrongIs(t, "switches 0\n"+line(1, 1), 0, api.ErrRange)
	wrongIs(t, "switches 7\n"+line(6, 1), 0, api.ErrRange)
	wrongIs(t, "switches 2\n"+line(1, 1)+line(1, 1)+line(3, 1), 0, api.ErrShape)
	wrongIs(t, "switches 2\n"+line(3, 1)+"reach a a\n", 0, api.ErrShape)
}

// TestParseNames: whatever stands for a name is taken, and told by Check, at 0.
func TestParseNames(t *testing.T) {
	for _, name := range []string{"", "A", "abcdefg", "a1", "1.1", "-", "a.b", "\t", "\r", "\x00", "\xff", "ä", "a\tb", strings.Repeat("a", 2000), "`", "{"} {
		wrongIs(t, "switches 2\nlink 1.1 2.1\nhost a 1.2\nhost "+name+" 1.3\nloops\n", 0, api.ErrSyntax)
		wrongIs(t, "switches 2\nhost "+name+" 9.9\n", 0, api.ErrSyntax)
		wrongIs(t, "switches 7\nhost "+name+" 9.9\n", 0, api.ErrRange)
		wrongIs(t, "switches 2\nhost "+name+" 1.3\nx\n", 2, api.ErrSyntax)
	}
	for _, name := range []string{"a", "z", "abcdef", "link", "host", "rule", "reach", "loops", "way", "drop"} {
		want := bare(1)
		want.Topo.Hosts = []api.Host{host(name, 1, 2)}
		parseIs(t, "switches 1\nhost "+name+" 1.2\nway "+name+" "+name+" 1\n", pair{want, []api.Wish{way(name, name, 1)}}, 0, api.OK)
	}
}

// TestParseEnd: the last line ends as all do.
func TestParseEnd(t *testing.T) {
	for text := range shown() {
		for i := range len(text) {
			if i > 0 && text[i-1] == '\n' {
				continue
			}
			wrongIs(t, text[:i], strings.Count(text[:i], "\n"), api.ErrSyntax)
		}
		wrongIs(t, text+"\n", strings.Count(text, "\n"), api.ErrSyntax)
		wrongIs(t, text+"loops", strings.Count(text, "\n"), api.ErrSyntax)
		wrongIs(t, strings.ReplaceAll(text, "\n", "\r\n"), 0, api.ErrSyntax)
		wrongIs(t, strings.ReplaceAll(text, "\n", "\r"), 0, api.ErrSyntax)
	}
}

// TestParseCheck: where no line is wrong, what Check says of the net is told, else of the wishes.
func TestParseCheck(t *testing.T) {
	for text, fault := range map[string]api.Errno{
		"switches 2\n" + strings.Repeat("link 1.1 2.1\n", 200):                                                   api.ErrClash,
		"switches 2\n" + strings.Repeat("link 1.1 2.1\n", 201):                                                   api.ErrFull,
		"switches 2\nlink 1.1 2.1\nlink 2.1 1.2\n":                                                               api.ErrClash,
		"switches 2\nlink 1.5 2.1\n":                                                                             api.ErrRange,
		"switches 2\nlink 1.1 3.1\n":                                                                             api.ErrRange,
		"switches 2\nlink 1.1 2.1\nhost a 2.1\n":                                                                 api.ErrClash,
		"switches 2\nhost a 2.1\nhost a 2.2\n":                                                                   api.ErrClash,
		"switches 3\n" + strings.Repeat("host a 1.1\n", 9):                                                       api.ErrFull,
		"switches 2\nhost a 2.0\n":                                                                               api.ErrRange,
		"switches 2\nrule 2 10 1*** drop\nrule 2 10 1*** out 1\n":                                                api.ErrClash,
		"switches 2\n" + strings.Repeat("rule 1 10 **** drop\n", 13):                                             api.ErrFull,
		"switches 2\n" + strings.Repeat("rule 1 10 **** drop\n", 12):                                             api.ErrClash,
		"switches 2\nrule 3 10 **** drop\n":                                                                      api.ErrShape,
		"switches 2\n" + strings.Repeat("loops\n", 9):                                                            api.ErrFull,
		"switches 2\nhost a 1.1\nreach a b\n":                                                                    api.ErrNone,
		"switches 2\nhost a 1.1\napart b a\n":                                                                    api.ErrNone,
		"switches 2\nhost a 1.1\nway a a 3\n":                                                                    api.ErrRange,
		"switches 2\nhost a 1.1\nway a b 3\nreach b b\n":                                                         api.ErrRange,
		"switches 2\nhost a 1.1\nreach b b\nway a b 3\n":                                                         api.ErrNone,
		"switches 2\nhost a 1.1\nrule 1 10 **** drop\nrule 1 10 **** drop\nreach a b\n":                          api.ErrClash,
		"switches 2\nhost A 1.1\nway a a 3\n":                                                                    api.ErrSyntax,
		"switches 2\nhost a 1.1\nrule 6 1 **** drop\nreach b b\n":                                                api.ErrShape,
		"switches 9\nhost a 1.1\nreach b b\n":                                                                    api.ErrRange,
		"switches 2\nlink 1.1 1.1\n" + strings.Repeat("loops\n", 9):                                              api.ErrClash,
		"switches 1\nlink 9.9 1.1\nhost a 1.1\nhost a 1.1\nrule 6 1 **** drop\n" + strings.Repeat("loops\n", 20): api.ErrRange,
	} {
		wrongIs(t, text, 0, fault)
	}
	rightIs(t, "switches 2\nhost a 1.1\n"+strings.Repeat("way a a 2\n", 8))
	text := "switches 1\n"
	for prio := range 12 {
		text += "rule 1 " + strconv.Itoa(prio) + " **** drop\n"
	}
	rightIs(t, text)
}
