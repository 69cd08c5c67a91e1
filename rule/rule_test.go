package rule

import (
	"math"
	"regexp"
	"strconv"
	"strings"
	"testing"

	"railpoint/api"
	"railpoint/plain"
)

// cubeTexts has every cube, with its text, written out rather than printed by what is tested.
func cubeTexts() map[string]api.Cube {
	all := map[string]api.Cube{"": {}}
	for range 4 {
		longer := map[string]api.Cube{}
		for s, c := range all {
			longer[s+"*"] = api.Cube{Mask: 2 * c.Mask, Bits: 2 * c.Bits}
			longer[s+"0"] = api.Cube{Mask: 2*c.Mask + 1, Bits: 2 * c.Bits}
			longer[s+"1"] = api.Cube{Mask: 2*c.Mask + 1, Bits: 2*c.Bits + 1}
		}
		all = longer
	}
	return all
}

// eachRule calls f with every right rule of some Prios, and its text.
func eachRule(f func(r api.Rule, text string)) {
	all := cubeTexts()
	for _, prio := range []int{0, 1, 9, 10, 42, 98, 99} {
		for s, c := range all {
			head := strconv.Itoa(prio) + " " + s
			f(api.Rule{Prio: prio, Cube: c}, head+" drop")
			for out := 1; out <= 4; out++ {
				text := head + " out " + strconv.Itoa(out)
				f(api.Rule{Prio: prio, Cube: c, Out: out}, text)
				for u, set := range all {
					if set.Mask != 0 {
						f(api.Rule{Prio: prio, Cube: c, Out: out, Set: set.Mask, Value: set.Bits}, text+" set "+u)
					}
				}
			}
		}
	}
}

// wrongRules has rules that are not right, with the fault: each number alone, and several at once.
func wrongRules() map[api.Rule]api.Errno {
	wrong := map[api.Rule]api.Errno{}
	base := api.Rule{Prio: 5, Cube: api.Cube{Mask: 12, Bits: 8}, Out: 2, Set: 3, Value: 1}
	far := []int{math.MinInt, -1 << 32, -100, -1, 1 << 32, 1<<32 + 1, math.MaxInt - 15, math.MaxInt}
	for _, n := range append(far, 100, 101, 1000) {
		r := base
		r.Prio = n
		wrong[r] = api.ErrRange
	}
	for _, n := range append(far, 5, 6, 100) {
		r := base
		r.Out = n
		wrong[r] = api.ErrRange
	}
	for _, n := range append(far, 16, 17, 31, 32) {
		set, value, mask, bits, all := base, base, base, base, base
		set.Set, value.Value, mask.Cube.Mask, bits.Cube.Bits = n, n, n, n
		all.Set, all.Value = n, n
		for _, r := range []api.Rule{set, value, mask, bits, all} {
			wrong[r] = api.ErrRange
		}
	}
	for r, e := range map[api.Rule]api.Errno{
		{Cube: api.Cube{Mask: 1, Bits: 2}, Out: 1}:                      api.ErrShape,
		{Cube: api.Cube{Mask: 0, Bits: 15}}:                             api.ErrShape,
		{Out: 1, Set: 0, Value: 1}:                                      api.ErrShape,
		{Out: 1, Set: 7, Value: 8}:                                      api.ErrShape,
		{Out: 4, Set: 14, Value: 15}:                                    api.ErrShape,
		{Out: 0, Set: 1, Value: 0}:                                      api.ErrShape,
		{Out: 0, Set: 15, Value: 15}:                                    api.ErrShape,
		{Out: 0, Set: 0, Value: 1}:                                      api.ErrShape,
		{Out: 0, Set: 1, Value: 2}:                                      api.ErrShape,
		{Cube: api.Cube{Mask: 1, Bits: 2}, Out: 1, Value: 1}:            api.ErrShape,
		{Prio: 100, Cube: api.Cube{Mask: 1, Bits: 2}}:                   api.ErrRange,
		{Prio: -1, Out: 1, Value: 1}:                                    api.ErrRange,
		{Cube: api.Cube{Mask: 1, Bits: 2}, Out: 5}:                      api.ErrRange,
		{Cube: api.Cube{Mask: 1, Bits: 2}, Out: 1, Set: 16}:             api.ErrRange,
		{Cube: api.Cube{Mask: 1, Bits: 2}, Out: 1, Set: 15, Value: 16}:  api.ErrRange,
		{Cube: api.Cube{Mask: 1, Bits: 2}, Out: 0, Set: 15, Value: -1}:  api.ErrRange,
		{Cube: api.Cube{Mask: 16, Bits: 0}, Out: 0, Set: 1}:             api.ErrRange,
		{Cube: api.Cube{Mask: 0, Bits: 16}, Out: 1, Set: 0, Value: 1}:   api.ErrRange,
		{Prio: 100, Cube: api.Cube{Mask: 16}, Out: 5, Set: 1, Value: 2}: api.ErrRange,
	} {
		wrong[r] = e
	}
	return wrong
}

func TestCheckTellsRightRules(t *testing.T) {
	eachRule(func(r api.Rule, text string) {
		if err := Check(r); err != nil {
			t.Fatalf("Check of %q: %v", text, err)
		}
	})
}

func TestCheckTellsFaults(t *testing.T) {
	for r, want := range wrongRules() {
		if got := plain.Told(Check(r)); got != want {
			t.Errorf("Check(%v): %v, want %v", r, got, want)
		}
	}
}

// TestCheckAllSmallNumbers holds Check against the words of the promise at all numbers in and around bounds.
func TestCheckAllSmallNumbers(t *testing.T) {
	for out := -1; out <= 5; out++ {
		for set := -1; set <= 16; set++ {
			for value := -1; value <= 16; value++ {
				for _, c := range []api.Cube{{}, {Mask: 9, Bits: 8}, {Mask: 9, Bits: 2}, {Mask: 16}} {
					r := api.Rule{Prio: 7, Cube: c, Out: out, Set: set, Value: value}
					want := api.OK
					switch {
					case out < 0 || out > 4 || set < 0 || set > 15 || value < 0 || value > 15 || c.Mask > 15:
						want = api.ErrRange
					case set|value != set || out == 0 && set != 0 || c.Bits == 2:
						want = api.ErrShape
					}
					if got := plain.Told(Check(r)); got != want {
						t.Fatalf("Check(%v): %v, want %v", r, got, want)
					}
				}
			}
		}
	}
}

func TestPrintAndParseRightRules(t *testing.T) {
	eachRule(func(r api.Rule, text string) {
		if got, err := Print(r); got != text || err != nil {
			t.Fatalf("Print(%v): %q, %v, want %q", r, got, err, text)
		}
		if got, err := Parse(text); got != r || err != nil {
			t.Fatalf("Parse(%q): %v, %v, want %v", text, got, err, r)
		}
	})
}

func TestPrintAndParseEveryPrio(t *testing.T) {
	for prio := range 100 {
		r := api.Rule{Prio: prio, Cube: api.Cube{Mask: 15, Bits: 10}, Out: 4, Set: 9, Value: 8}
		text := strconv.Itoa(prio) + " 1010 out 4 set 1**0"
		if got, err := Print(r); got != text || err != nil {
			t.Errorf("Print(%v): %q, %v, want %q", r, got, err, text)
		}
		if got, err := Parse(text); got != r || err != nil {
			t.Errorf("Parse(%q): %v, %v, want %v", text, got, err, r)
		}
	}
}

func TestPrintWrongRules(t *testing.T) {
	for r, want := range wrongRules() {
		if s, err := Print(r); s != "" || plain.Told(err) != want {
			t.Errorf("Print(%v): %q, %v, want %v", r, s, err, want)
		}
	}
}

func parsesNot(t *testing.T, text string, want api.Errno) {
	t.Helper()
	if r, err := Parse(text); r != (api.Rule{}) || plain.Told(err) != want {
		t.Errorf("Parse(%q): %v, %v, want %v", text, r, err, want)
	}
}

func TestParseRefusesOtherTexts(t *testing.T) {
	for _, text := range []string{
		"", " ", "  ", "   ", "drop", "5", "5 ", "5 ****", "5 **** ", "**** drop", " **** drop", "5 drop",
		" 5 **** drop", "5  **** drop", "5 ****  drop", "5 **** drop ", "5 **** drop\n", "5\t**** drop",
		"5 **** out", "5 **** out ", "5 **** out  1", "5 **** out 1 ", " 5 **** out 1", "5 **** out1",
		"05 **** drop", "00 **** drop", "-5 **** drop", "+5 **** drop", "5. **** drop", "x **** drop",
		"0x5 **** drop", "1_0 **** drop", "５ **** drop",
		"1000000000 **** drop", "0000000005 **** drop", "99999999999999999999 **** drop",
		"18446744073709551621 **** drop",
		"5 *** drop", "5 ***** drop", "5 **2* drop", "5 * *** drop",
		"5 **** Drop", "5 **** dropp", "5 **** dro", "5 **** fall", "5 **** ", "5 **** drop 1",
		"5 **** drop set 1***", "5 **** drop out 1", "5 **** drop 0 set 1***",
		"5 **** Out 1", "5 **** in 1", "5 **** out x", "5 **** out -1", "5 **** out +1", "5 **** out 01",
		"5 **** out 0", "5 **** out 00", "5 **** out 0 set 1***", "5 **** out 1000000000",
		"5 **** out 18446744073709551617", "5 **** out ****",
		"5 **** out 1 set", "5 **** out 1 set ", "5 **** out 1 1***", "5 **** out 1 Set 1***",
		"5 **** out 1 sets 1***", "5 **** out 1 set ****", "5 **** out 1 set 1**", "5 **** out 1 set 1****",
		"5 **** out 1 set 2***", "5 **** out 1 set  1***", "5 **** out 1  set 1***", "5 **** out 1 set 1*** ",
		"5 **** out 1 set 1*** set 1***", "5 **** out 1 set 1*** 5", "5 **** set 1*** out 1",
		"5 **** set 1***", "5 **** out 1 out 1", "5 **** out 1 drop",
		// The form is told ahead of the range.
		"100 **** out 0", "100 **** out 01", "100 *** drop", "100 **** out 1 set ****", "100 **** drop ",
		"5 **** out 5 ", "5 **** out 5 set ****", "5 **** out 5 set", "05 **** out 5", "5 **2* out 5",
	} {
		parsesNot(t, text, api.ErrSyntax)
	}
	parsesNot(t, strings.Repeat(" ", 1<<20), api.ErrSyntax)
	parsesNot(t, "5 **** out 1 set 1***"+strings.Repeat(" 1", 1<<20), api.ErrSyntax)
	parsesNot(t, strings.Repeat("9", 1<<20)+" **** drop", api.ErrSyntax)
}

func TestParseTellsNumbersTooGreat(t *testing.T) {
	for _, prio := range []string{"100", "101", "1000", "999999999", "100000000"} {
		for _, tail := range []string{"drop", "out 1", "out 4 set 0*1*", "out 5", "out 999999999"} {
			parsesNot(t, prio+" 01** "+tail, api.ErrRange)
		}
	}
	for _, port := range []string{"5", "6", "10", "100", "999999999", "100000000"} {
		for _, prio := range []string{"0", "7", "99"} {
			parsesNot(t, prio+" 01** out "+port, api.ErrRange)
			parsesNot(t, prio+" 01** out "+port+" set 111*", api.ErrRange)
		}
	}
}

// form is a text of a rule, but for how great its numbers are.
var form = regexp.MustCompile(`\A(0|[1-9][0-9]{0,8}) [01*]{4} (?:drop|out ([1-9][0-9]{0,8})(?: set ([01*]{4}))?)\z`)

// parseFits holds what Parse answers of any text against the form.
func parseFits(t *testing.T, text string) {
	t.Helper()
	m := form.FindStringSubmatch(text)
	if m == nil || m[3] == "****" {
		parsesNot(t, text, api.ErrSyntax)
		return
	}
	if len(m[1]) > 2 || m[2] != "" && (len(m[2]) > 1 || m[2] > "4") {
		parsesNot(t, text, api.ErrRange)
		return
	}
	r, err := Parse(text)
	if err != nil {
		t.Errorf("Parse(%q): %v", text, err)
		return
	}
	if back, err := Print(r); back != text || err != nil {
		t.Errorf("Parse(%q): %v, which is %q, %v", text, r, back, err)
	}
}

// TestParseNearRightTexts changes, takes away and puts in one byte at every place of some texts.
func TestParseNearRightTexts(t *testing.T) {
	for _, text := range []string{
		"0 **** drop", "99 0101 drop", "10 1*0* out 1", "7 **1* out 4", "30 0000 out 2 set 1111", "1 **** out 3 set ***0",
		"100 **** drop", "5 **** out 5", "999999999 **** out 999999999 set 1***",
	} {
		parseFits(t, text)
		for i := range len(text) + 1 {
			for b := range 256 {
				parseFits(t, text[:i]+string([]byte{byte(b)})+text[i:])
				if i < len(text) {
					parseFits(t, text[:i]+string([]byte{byte(b)})+text[i+1:])
				}
			}
			for j := i + 1; j <= len(text); j++ {
				parseFits(t, text[:i]+text[j:])
			}
		}
	}
}

// TestParseWordsInAllOrders puts words together in every way, five at most.
func TestParseWordsInAllOrders(t *testing.T) {
	words := []string{"", "0", "4", "5", "99", "100", "****", "1*0*", "drop", "out", "set"}
	texts := []string{""}
	for range 5 {
		var longer []string
		for _, s := range texts {
			for _, w := range words {
				longer = append(longer, s+w+" ")
				parseFits(t, s+w)
			}
		}
		texts = longer
	}
	for _, s := range []string{"5 **** out 4 ", "100 1*0* out 1 "} {
		for _, w := range words {
			for _, u := range words {
				parseFits(t, s+w+" "+u)
				parseFits(t, s+w+" "+u+" ")
				parseFits(t, s+w+" "+u+" set 1***")
			}
		}
	}
}

// with is a header whose bits of set are those of value, bit by bit.
func with(header, set, value int) int {
	n := 0
	for bit := 1; bit <= 8; bit *= 2 {
		from := header
		if set/bit%2 == 1 {
			from = value
		}
		n += from / bit % 2 * bit
	}
	return n
}

func TestApplyRightRules(t *testing.T) {
	eachRule(func(r api.Rule, text string) {
		if r.Prio != 0 && r.Prio != 99 {
			return
		}
		for h := range 16 {
			got, err := Apply(r, h)
			if r.Out == 0 || h&r.Cube.Mask != r.Cube.Bits {
				if got != 0 || plain.Told(err) != api.ErrNone {
					t.Fatalf("Apply of %q to %d: %d, %v, want ErrNone", text, h, got, err)
				}
			} else if want := with(h, r.Set, r.Value); got != want || err != nil {
				t.Fatalf("Apply of %q to %d: %d, %v, want %d", text, h, got, err, want)
			}
		}
	})
}

// noHeaders has numbers that are no headers.
func noHeaders() []int {
	return []int{math.MinInt, -1 << 32, -16, -1, 16, 17, 31, 1 << 32, 1<<32 + 5, math.MaxInt}
}

func applyTells(t *testing.T, r api.Rule, header int, want api.Errno) {
	t.Helper()
	if got, err := Apply(r, header); got != 0 || plain.Told(err) != want {
		t.Errorf("Apply(%v, %d): %d, %v, want %v", r, header, got, err, want)
	}
}

func TestApplyTellsFaults(t *testing.T) {
	for _, n := range noHeaders() {
		applyTells(t, api.Rule{Out: 1}, n, api.ErrRange)
		// A header that is none is told ahead of a rule that has it not.
		applyTells(t, api.Rule{}, n, api.ErrRange)
		applyTells(t, api.Rule{Cube: api.Cube{Mask: 15, Bits: 3}, Out: 1}, n, api.ErrRange)
	}
	for r, want := range wrongRules() {
		for _, n := range append(noHeaders(), 0, 8, 15) {
			applyTells(t, r, n, want)
		}
	}
}
