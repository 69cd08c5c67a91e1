package cube

import (
	"math"
	"slices"
	"testing"

	"railpoint/api"
	"railpoint/plain"
)

// numbers has every header, and numbers around and far from them that are none.
func numbers() []int {
	l := []int{math.MinInt, math.MinInt + 15, -1 << 32, -16, -2, -1}
	for n := range 18 {
		l = append(l, n)
	}
	return append(l, 31, 32, 1<<32, 1<<32+5, math.MaxInt-15, math.MaxInt)
}

// rightCubes has all cubes, written out from their texts rather than by what is tested.
func rightCubes() map[string]api.Cube {
	all := map[string]api.Cube{"": {}}
	for range 4 {
		longer := map[string]api.Cube{}
		for s, c := range all {
			longer[s+"*"] = api.Cube{Mask: 2 * c.Mask, Bits: 2 * c.Bits}
			longer[s+"0"] = api.Cube{Mask: 2*c.Mask + 1, Bits: 2 * c.Bits}
			longer[s+"1"] = api.Cube{Mask: 2*c.Mask + 1, Bits: 2*c.Bits + 1}
		}
		all = longer
	}
	return all
}

// wrongCubes has cubes of every fault, with the fault.
func wrongCubes() map[api.Cube]api.Errno {
	right := map[api.Cube]bool{}
	for _, c := range rightCubes() {
		right[c] = true
	}
	wrong := map[api.Cube]api.Errno{}
	for _, mask := range numbers() {
		for _, bits := range numbers() {
			c := api.Cube{Mask: mask, Bits: bits}
			if mask < 0 || mask > 15 || bits < 0 || bits > 15 {
				wrong[c] = api.ErrRange
			} else if !right[c] {
				wrong[c] = api.ErrShape
			}
		}
	}
	return wrong
}

// headersOf has the headers that a text stands for, rising.
func headersOf(text string) []int {
	var l []int
	for h := range 16 {
		digits := []byte{'0', '0', '0', '0'}
		for i := range digits {
			digits[i] += byte(h / (8 >> i) % 2)
		}
		fits := true
		for i := range digits {
			fits = fits && (text[i] == '*' || text[i] == digits[i])
		}
		if fits {
			l = append(l, h)
		}
	}
	return l
}

func TestCheckTellsRightCubes(t *testing.T) {
	all := rightCubes()
	if len(all) != 81 {
		t.Fatalf("%d cubes, want 81", len(all))
	}
	for s, c := range all {
		if err := Check(c); err != nil {
			t.Errorf("Check(%v), of %s: %v", c, s, err)
		}
	}
}

func TestCheckTellsFaults(t *testing.T) {
	for c, want := range wrongCubes() {
		if got := plain.Told(Check(c)); got != want {
			t.Errorf("Check(%v): %v, want %v", c, got, want)
		}
	}
}

func TestCheckEdges(t *testing.T) {
	for _, x := range []struct {
		c    api.Cube
		want api.Errno
	}{
		{api.Cube{}, api.OK},
		{api.Cube{Mask: 15, Bits: 15}, api.OK},
		{api.Cube{Mask: 15, Bits: 0}, api.OK},
		{api.Cube{Mask: 16, Bits: 0}, api.ErrRange},
		{api.Cube{Mask: -1, Bits: 0}, api.ErrRange},
		{api.Cube{Mask: 15, Bits: 16}, api.ErrRange},
		{api.Cube{Mask: 15, Bits: -1}, api.ErrRange},
		{api.Cube{Mask: 16, Bits: 16}, api.ErrRange},
		{api.Cube{Mask: 0, Bits: 1}, api.ErrShape},
		{api.Cube{Mask: 7, Bits: 8}, api.ErrShape},
		{api.Cube{Mask: 14, Bits: 15}, api.ErrShape},
		// The range is told ahead of the shape.
		{api.Cube{Mask: 0, Bits: 16}, api.ErrRange},
		{api.Cube{Mask: 16, Bits: 1}, api.ErrRange},
	} {
		if got := plain.Told(Check(x.c)); got != x.want {
			t.Errorf("Check(%v): %v, want %v", x.c, got, x.want)
		}
	}
}

func TestIsHeader(t *testing.T) {
	all := headersOf("****")
	for _, n := range numbers() {
		if got := IsHeader(n); got != slices.Contains(all, n) {
			t.Errorf("IsHeader(%d): %v", n, got)
		}
	}
}

func TestHeadersOfRightCubes(t *testing.T) {
	for s, c := range rightCubes() {
		want := headersOf(s)
		for _, n := range numbers() {
			if got := Has(c, n); got != slices.Contains(want, n) {
				t.Errorf("Has(%s, %d): %v", s, n, got)
			}
		}
		if got := Count(c); got != len(want) {
			t.Errorf("Count(%s): %d, want %d", s, got, len(want))
		}
		if got := First(c); got != want[0] {
			t.Errorf("First(%s): %d, want %d", s, got, want[0])
		}
	}
}

func TestWrongCubesHaveNoHeader(t *testing.T) {
	for c := range wrongCubes() {
		for _, n := range numbers() {
			if Has(c, n) {
				t.Errorf("Has(%v, %d)", c, n)
			}
		}
		if got := Count(c); got != 0 {
			t.Errorf("Count(%v): %d, want 0", c, got)
		}
		if got := First(c); got != 0 {
			t.Errorf("First(%v): %d, want 0", c, got)
		}
	}
}

func TestPrintAndParseRightCubes(t *testing.T) {
	for s, c := range rightCubes() {
		if got, err := Print(c); got != s || err != nil {
			t.Errorf("Print(%v): %q, %v, want %q", c, got, err, s)
		}
		if got, err := Parse(s); got != c || err != nil {
			t.Errorf("Parse(%q): %v, %v, want %v", s, got, err, c)
		}
	}
}

func TestPrintWrongCubes(t *testing.T) {
	for c, want := range wrongCubes() {
		if s, err := Print(c); s != "" || plain.Told(err) != want {
			t.Errorf("Print(%v): %q, %v, want %v", c, s, err, want)
		}
	}
}

func parsesNot(t *testing.T, text string) {
	t.Helper()
	c, err := Parse(text)
	if c != (api.Cube{}) || plain.Told(err) != api.ErrSyntax {
		t.Errorf("Parse(%q): %v, %v, want ErrSyntax", text, c, err)
	}
}

func TestParseRefusesOtherLengths(t *testing.T) {
	for s := range rightCubes() {
		for n := range 4 {
			parsesNot(t, s[:n])
		}
		for _, more := range []string{"0", "1", "*", " ", "\n", "\x00", s} {
			parsesNot(t, s+more)
			parsesNot(t, more+s)
		}
	}
}

func TestParseRefusesOtherBytes(t *testing.T) {
	for place := range 4 {
		for b := range 256 {
			text := []byte("1*01")
			text[place] = byte(b)
			if b != '0' && b != '1' && b != '*' {
				parsesNot(t, string(text))
			}
		}
	}
	// Four runes of other lengths than a byte are no four bytes.
	parsesNot(t, "１０１０")
	parsesNot(t, "1é0")
}

func TestMeetAndInsideOfRightCubes(t *testing.T) {
	all := rightCubes()
	for s, a := range all {
		for u, b := range all {
			var both []int
			for _, h := range headersOf(s) {
				if slices.Contains(headersOf(u), h) {
					both = append(both, h)
				}
			}
			meetHas(t, a, b, both, all)
			if got, want := Inside(a, b), len(both) == len(headersOf(s)); got != want {
				t.Errorf("Inside(%s, %s): %v, want %v", s, u, got, want)
			}
		}
	}
}

// meetHas asks that two cubes meet in just the cube of these headers, or not at all if there are none.
func meetHas(t *testing.T, a, b api.Cube, both []int, all map[string]api.Cube) {
	t.Helper()
	var want api.Cube
	for s, c := range all {
		if len(both) > 0 && slices.Equal(headersOf(s), both) {
			want = c
		}
	}
	if got, ok := Meet(a, b); got != want || ok != (len(both) > 0) {
		t.Errorf("Meet(%v, %v): %v, %v, want %v", a, b, got, ok, want)
	}
}

func TestMeetAndInsideOfWrongCubes(t *testing.T) {
	refused := func(a, b api.Cube) {
		if c, ok := Meet(a, b); ok || c != (api.Cube{}) {
			t.Errorf("Meet(%v, %v): %v, %v", a, b, c, ok)
		}
		if Inside(a, b) {
			t.Errorf("Inside(%v, %v)", a, b)
		}
	}
	for w := range wrongCubes() {
		refused(w, w)
		for _, c := range rightCubes() {
			refused(w, c)
			refused(c, w)
		}
	}
}
