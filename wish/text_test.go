package wish

import (
	"math"
	"regexp"
	"strconv"
	"strings"
	"testing"
	"unsafe"

	"railpoint/api"
	"railpoint/plain"
)

// rightNames has names that hosts may have, the shortest and the longest among them.
var rightNames = []string{"a", "z", "m", "ab", "zz", "reach", "way", "loops", "abcdef", "zzzzzz"}

// wrongNames has what no host may be called.
var wrongNames = []string{"", "abcdefg", strings.Repeat("a", 300), "A", "Z", "aB", "a1", "0", "1", "-", "a b", " a", "a ", " ",
	"`", "{", "a`", "{a", "@", "[", "\x00", "a\n", "\n", "\t", "\x7f", "\x80", "\xff", "ä", "é", "a,b", "*"}

// eachRight calls f with right wishes of all kinds, and their texts.
func eachRight(f func(w api.Wish, text string)) {
	f(loops(), "loops")
	for _, from := range rightNames {
		for _, to := range rightNames {
			f(reach(from, to), "reach "+from+" "+to)
			f(apart(from, to), "apart "+from+" "+to)
			for via := 1; via <= 6; via++ {
				f(way(from, to, via), "way "+from+" "+to+" "+string(rune('0'+via)))
			}
		}
	}
}

func printIs(t *testing.T, w api.Wish, want string, fault api.Errno) {
	t.Helper()
	got, err := Print(w)
	if got != want || plain.Told(err) != fault {
		t.Errorf("Print(%v): %q, %v, want %q, %v", w, got, err, want, fault)
	}
}

func parseIs(t *testing.T, text string, want api.Wish, fault api.Errno) {
	t.Helper()
	got, err := Parse(text)
	if got != want || plain.Told(err) != fault {
		t.Errorf("Parse(%q): %v, %v, want %v, %v", text, got, err, want, fault)
	}
}

// TestThereAndBack: what is printed is parsed as it was.
func TestThereAndBack(t *testing.T) {
	eachRight(func(w api.Wish, text string) {
		printIs(t, w, text, api.OK)
		parseIs(t, text, w, api.OK)
	})
	printIs(t, api.Wish{What: api.Reach, From: "ann", To: "bob"}, "reach ann bob", api.OK)
	printIs(t, api.Wish{What: api.Apart, From: "bob", To: "bob"}, "apart bob bob", api.OK)
	printIs(t, api.Wish{What: api.Way, From: "ann", To: "cy", Via: api.MaxSwitch}, "way ann cy 6", api.OK)
	printIs(t, api.Wish{What: api.Loops}, "loops", api.OK)
}

func TestPrintWhat(t *testing.T) {
	for _, what := range []int{0, 5, -1, 6, -4, 1 << 32, 1<<32 + 1, math.MinInt, math.MaxInt} {
		for _, w := range []api.Wish{{}, reach("a", "b"), reach("", "B"), way("a", "b", 1), {Via: -9}} {
			w.What = what
			printIs(t, w, "", api.ErrRange)
		}
	}
}

func TestPrintVia(t *testing.T) {
	for _, via := range append([]int{0}, farVias...) {
		printIs(t, way("a", "b", via), "", api.ErrRange)
		printIs(t, way("", "B", via), "", api.ErrRange)
	}
	for _, via := range append([]int{1, 6}, farVias...) {
		for _, w := range []api.Wish{reach("a", "b"), apart("a", "b"), loops()} {
			w.Via = via
			printIs(t, w, "", api.ErrShape)
		}
	}
}

// TestPrintNames: a wrong name is told ahead of what does not go together, but behind the numbers.
func TestPrintNames(t *testing.T) {
	for _, no := range wrongNames {
		for _, names := range [][2]string{{no, "b"}, {"b", no}, {no, no}} {
			from, to := names[0], names[1]
			printIs(t, reach(from, to), "", api.ErrSyntax)
			printIs(t, apart(from, to), "", api.ErrSyntax)
			printIs(t, way(from, to, 1), "", api.ErrSyntax)
			printIs(t, api.Wish{What: 1, From: from, To: to, Via: 1}, "", api.ErrSyntax)
			printIs(t, api.Wish{What: 2, From: from, To: to, Via: -1}, "", api.ErrSyntax)
			printIs(t, way(from, to, 7), "", api.ErrRange)
			printIs(t, api.Wish{What: 5, From: from, To: to}, "", api.ErrRange)
		}
	}
}

// TestPrintLoops: whether a name that ought not to be there is a right one makes no odds.
func TestPrintLoops(t *testing.T) {
	for _, l := range [][]string{rightNames, wrongNames[1:]} {
		for _, name := range l {
			printIs(t, api.Wish{What: 4, From: name}, "", api.ErrShape)
			printIs(t, api.Wish{What: 4, To: name}, "", api.ErrShape)
			printIs(t, api.Wish{What: 4, From: name, To: name}, "", api.ErrShape)
			printIs(t, api.Wish{What: 4, From: name, Via: 1}, "", api.ErrShape)
		}
	}
}

func TestParseIsNone(t *testing.T) {
	for _, text := range []string{
		"", " ", "  ", "   ", "\n", "reach", "apart", "way", "reach ", "way ", "reach a", "apart a", "way a", "way a b",
		"reach a ", "reach  a", "way a b ", "reach a b ", "reach a b  ", " reach a b", "reach  a b", "reach a  b", "reach a b c",
		"reach a b 1", "reach a b 0", "apart a b 1", "reach\ta b", "reach a\tb", "reach a b\n", "reach,a,b", "reachab", "reacha b",
		"Reach a b", "REACH a b", "reac a b", "reachh a b", "each a b", "rеach a b", "1 a b", "0 a b", " a b", "  a b", "to a b",
		"apart  a b", "apart a b ", " apart a b", "apar a b", "Apart a b", "aparts a b", "reach apart a b", "reach reach",
		"loops ", " loops", "loops  ", "loops   ", "loops a", "loops a b", "loops a b 1", "loops 0", "loop", "Loops", "loopss", "loops\n", "loops\x00",
		"way a b 1 ", "way a b  1", "way  a b 1", "way a  b 1", " way a b 1", "way a b 1 1", "way a b 1 c", "way 1", "way a 1", "way a b c 1", "way a b c",
		"way a b 0", "way a b 7", "way a b 8", "way a b 9", "way a b 10", "way a b 11", "way a b 16", "way a b 60", "way a b -1", "way a b +1", "way a b -0",
		"way a b 01", "way a b 00", "way a b 001", "way a b 1.0", "way a b 1,", "way a b 0x1", "way a b 1_0", "way a b _1", "way a b 1e0", "way a b one",
		"way a b 4294967297", "way a b 18446744073709551617", "way a b 9223372036854775807", "way a b 99999999999999999999999", "way a b ١",
		"way a b 1\n", "way a b \n1", "Way a b 1", "ways a b 1", "wa a b 1",
		"reach a b" + strings.Repeat(" ", 100000), strings.Repeat("a ", 100000), "way a b " + strings.Repeat("0", 100000) + "1",
		"reach " + strings.Repeat("a", 100000) + " b",
	} {
		parseIs(t, text, api.Wish{}, api.ErrSyntax)
	}
}

func TestParseNames(t *testing.T) {
	for _, no := range wrongNames {
		for _, names := range []string{no + " b", "b " + no, no + " " + no} {
			parseIs(t, "reach "+names, api.Wish{}, api.ErrSyntax)
			parseIs(t, "apart "+names, api.Wish{}, api.ErrSyntax)
			parseIs(t, "way "+names+" 1", api.Wish{}, api.ErrSyntax)
			parseIs(t, "loops "+names, api.Wish{}, api.ErrSyntax)
		}
	}
}

var wishForm = regexp.MustCompile(`\A(reach [a-z]{1,6} [a-z]{1,6}|apart [a-z]{1,6} [a-z]{1,6}|way [a-z]{1,6} [a-z]{1,6} [1-6]|loops)\z`)

// TestParseOfChangedTexts: a byte more, fewer or another one is taken just where the form of a wish says so.
func TestParseOfChangedTexts(t *testing.T) {
	taken := 0
	for _, text := range []string{"reach ann bob", "apart abcdef z", "way a bb 4", "loops", "way way loops 6"} {
		for i := range len(text) + 1 {
			changed := []string{text[:i], text[i:]}
			for b := range 256 {
				changed = append(changed, text[:i]+string([]byte{byte(b)})+text[i:])
				if i < len(text) {
					changed = append(changed, text[:i]+string([]byte{byte(b)})+text[i+1:], text[:i]+text[i+1:])
				}
			}
			for _, x := range changed {
				w, err := Parse(x)
				if !wishForm.MatchString(x) {
					parseIs(t, x, api.Wish{}, api.ErrSyntax)
				} else if back, bad := Print(w); err != nil || back != x || bad != nil {
					t.Errorf("Parse(%q): %v, %v, printed %q, %v", x, w, err, back, bad)
				} else {
					taken++
				}
			}
		}
	}
	if taken < 100 {
		t.Errorf("only %d texts were right ones", taken)
	}
}

// TestParseNumbers: of all numbers just 1 to 6.
func TestParseNumbers(t *testing.T) {
	for n := -20; n <= 300; n++ {
		text := "way a b " + strconv.Itoa(n)
		if n >= 1 && n <= 6 {
			parseIs(t, text, way("a", "b", n), api.OK)
		} else {
			parseIs(t, text, api.Wish{}, api.ErrSyntax)
		}
	}
}

// TestNamesShareNoMemory: names that are parsed are no pieces of the text.
func TestNamesShareNoMemory(t *testing.T) {
	text := strings.Clone("way ann bob 3")
	w, _ := Parse(text)
	from := uintptr(unsafe.Pointer(unsafe.StringData(text)))
	for _, name := range []string{w.From, w.To} {
		at := uintptr(unsafe.Pointer(unsafe.StringData(name)))
		if at >= from && at < from+uintptr(len(text)) {
			t.Errorf("%q is a piece of the text", name)
		}
	}
}
