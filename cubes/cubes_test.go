package cubes

import (
	"math"
	"math/rand"
	"slices"
	"testing"

	"railpoint/api"
	"railpoint/plain"
)

// all has every right cube, in one order.
func all() []api.Cube {
	var l []api.Cube
	for mask := range 16 {
		for bits := range 16 {
			if bits&^mask == 0 {
				l = append(l, api.Cube{Mask: mask, Bits: bits})
			}
		}
	}
	return l
}

var (
	farMask  = api.Cube{Mask: 16}
	farBits  = api.Cube{Mask: 15, Bits: -1}
	misfit   = api.Cube{Mask: 1, Bits: 2}
	everyone = api.Cube{}
)

// wrongCubes has cubes that are not right, with the fault.
func wrongCubes() map[api.Cube]api.Errno {
	return map[api.Cube]api.Errno{
		farMask:                              api.ErrRange,
		farBits:                              api.ErrRange,
		{Mask: -1, Bits: 0}:                  api.ErrRange,
		{Mask: math.MinInt, Bits: 5}:         api.ErrRange,
		{Mask: 15, Bits: math.MaxInt}:        api.ErrRange,
		{Mask: 0, Bits: 16}:                  api.ErrRange,
		misfit:                               api.ErrShape,
		{Mask: 0, Bits: 15}:                  api.ErrShape,
		{Mask: 14, Bits: 1}:                  api.ErrShape,
		{Mask: 1 << 32, Bits: 0}:             api.ErrRange,
		{Mask: 1<<32 + 15, Bits: 1<<32 + 15}: api.ErrRange,
	}
}

// set is a set of headers, a bit for each: the plain model that answers are held against.
type set uint

func one(c api.Cube) set {
	var s set
	for h := range 16 {
		if h&c.Mask == c.Bits {
			s |= 1 << h
		}
	}
	return s
}

func together(l []api.Cube) set {
	var s set
	for _, c := range l {
		s |= one(c)
	}
	return s
}

func (s set) rising() []int {
	var l []int
	for h := range 16 {
		if s>>h&1 == 1 {
			l = append(l, h)
		}
	}
	return l
}

// partsOf fails unless l has just the headers of s, no two of it one together, and none is empty or wrong.
func partsOf(t *testing.T, what string, of, l []api.Cube, s set) {
	t.Helper()
	var got set
	for _, c := range l {
		if c.Mask < 0 || c.Mask > 15 || c.Bits < 0 || c.Bits > 15 || c.Bits&^c.Mask != 0 {
			t.Fatalf("%s of %v: %v is not right", what, of, c)
		}
		if got&one(c) != 0 {
			t.Fatalf("%s of %v: %v has a header twice", what, of, l)
		}
		got |= one(c)
	}
	if got != s {
		t.Fatalf("%s of %v: %v has %v, want %v", what, of, l, got.rising(), s.rising())
	}
	if len(l) > 16 {
		t.Fatalf("%s of %v: %d cubes", what, of, len(l))
	}
}

// lists has lists of right cubes: none, each, some of every length to 40.
func lists() [][]api.Cube {
	every := all()
	out := [][]api.Cube{nil, {}}
	for _, c := range every {
		out = append(out, []api.Cube{c}, []api.Cube{c, c})
	}
	r := rand.New(rand.NewSource(2))
	for n := 1; n <= 40; n++ {
		for range 30 {
			l := make([]api.Cube, n)
			for i := range l {
				l[i] = every[r.Intn(len(every))]
				// Narrow cubes leave room: else nearly all long lists would have every header.
				for n > 3 && r.Intn(8) != 0 && len(one(l[i]).rising()) > 2 {
					l[i] = every[r.Intn(len(every))]
				}
			}
			out = append(out, l)
		}
	}
	var singles []api.Cube
	for h := range 16 {
		singles = append(singles, api.Cube{Mask: 15, Bits: h})
	}
	return append(out, singles, singles[:8], singles[8:])
}

// answers asks every call that checks a list, and gives what each tells and whether all else is empty.
func answers(l []api.Cube) (map[string]api.Errno, bool) {
	told := map[string]api.Errno{"Check": plain.Told(Check(l))}
	empty := true
	note := func(name string, err error, isEmpty bool) {
		told[name] = plain.Told(err)
		empty = empty && isEmpty
	}
	m, err := Minus(everyone, l)
	note("Minus", err, m == nil)
	a, err := Apart(l)
	note("Apart", err, a == nil)
	n, err := Count(l)
	note("Count", err, n == 0)
	h, err := Headers(l)
	note("Headers", err, h == nil)
	s, err := Same(l, nil)
	note("Same of it and none", err, !s)
	s, err = Same(nil, l)
	note("Same of none and it", err, !s)
	return told, empty
}

func wantTold(t *testing.T, l []api.Cube, want api.Errno) {
	t.Helper()
	told, empty := answers(l)
	for name, e := range told {
		if e != want {
			t.Errorf("%s of %v: %v, want %v", name, l, e, want)
		}
	}
	if want != api.OK && !empty {
		t.Errorf("%v: an answer beside an error", l)
	}
}

func many(n int, c api.Cube) []api.Cube {
	l := make([]api.Cube, n)
	for i := range l {
		l[i] = c
	}
	return l
}

func TestRightListsAreRight(t *testing.T) {
	for _, l := range lists() {
		wantTold(t, l, api.OK)
	}
	wantTold(t, many(40, everyone), api.OK)
}

func TestMoreThanFortyAreTooMany(t *testing.T) {
	for _, n := range []int{41, 42, 80, 1000} {
		wantTold(t, many(n, api.Cube{Mask: 15, Bits: 3}), api.ErrFull)
	}
}

func TestTooManyIsToldAheadOfWrongCubes(t *testing.T) {
	for c := range wrongCubes() {
		wantTold(t, many(41, c), api.ErrFull)
	}
}

func TestWrongCubeIsToldAtEveryPlace(t *testing.T) {
	for c, want := range wrongCubes() {
		for _, n := range []int{1, 2, 5, 40} {
			for i := range n {
				l := many(n, api.Cube{Mask: 3, Bits: 1})
				l[i] = c
				wantTold(t, l, want)
			}
		}
	}
}

func TestFirstWrongCubeIsTold(t *testing.T) {
	ok := api.Cube{Mask: 8}
	wantTold(t, []api.Cube{misfit, farMask}, api.ErrShape)
	wantTold(t, []api.Cube{farBits, misfit}, api.ErrRange)
	wantTold(t, []api.Cube{ok, misfit, ok, farBits, misfit}, api.ErrShape)
	wantTold(t, []api.Cube{ok, farMask, misfit, ok}, api.ErrRange)
}

func TestHas(t *testing.T) {
	for _, l := range lists() {
		s := together(l)
		for h := range 16 {
			if Has(l, h) != (s>>h&1 == 1) {
				t.Fatalf("Has(%v, %d) = %v", l, h, Has(l, h))
			}
		}
	}
}

func TestHasNoHeaderThatIsNone(t *testing.T) {
	for _, h := range []int{math.MinInt, -16, -1, 16, 17, 1 << 32, math.MaxInt} {
		if Has(all(), h) {
			t.Errorf("%d is in a cube", h)
		}
	}
}

func TestHasPassesOverWrongCubes(t *testing.T) {
	for c := range wrongCubes() {
		for h := range 16 {
			if Has([]api.Cube{c}, h) {
				t.Errorf("%v has %d", c, h)
			}
			l := []api.Cube{c, {Mask: 15, Bits: 6}, c}
			if Has(l, h) != (h == 6) {
				t.Errorf("Has(%v, %d) = %v", l, h, Has(l, h))
			}
		}
	}
}

func TestHasTakesLongLists(t *testing.T) {
	l := append(many(50, api.Cube{Mask: 15, Bits: 1}), api.Cube{Mask: 15, Bits: 9})
	if !Has(l, 1) || !Has(l, 9) || Has(l, 2) {
		t.Error("more than 40 cubes are not asked as they stand")
	}
}

func TestMinus(t *testing.T) {
	every := all()
	for _, l := range lists() {
		s := together(l)
		for _, c := range every {
			m, err := Minus(c, l)
			if err != nil {
				t.Fatal(c, l, err)
			}
			partsOf(t, "Minus", append([]api.Cube{c}, l...), m, one(c)&^s)
		}
	}
}

func TestMinusOfAllPairs(t *testing.T) {
	every := all()
	for _, c := range every {
		for _, a := range every {
			for _, b := range every {
				m, err := Minus(c, []api.Cube{a, b})
				if err != nil {
					t.Fatal(c, a, b, err)
				}
				partsOf(t, "Minus", []api.Cube{c, a, b}, m, one(c)&^one(a)&^one(b))
			}
		}
	}
}

func TestMinusItselfLeavesNothing(t *testing.T) {
	for _, c := range all() {
		if m, err := Minus(c, []api.Cube{c}); len(m) != 0 || err != nil {
			t.Errorf("%v less itself: %v, %v", c, m, err)
		}
	}
}

func TestMinusChecksItsCubeFirst(t *testing.T) {
	others := [][]api.Cube{nil, {everyone}, {misfit}, {farMask}, many(41, everyone)}
	for c, want := range wrongCubes() {
		for _, l := range others {
			if m, err := Minus(c, l); m != nil || plain.Told(err) != want {
				t.Errorf("Minus(%v, %v) = %v, %v, want %v", c, l, m, err, want)
			}
		}
	}
}

func TestApart(t *testing.T) {
	for _, l := range lists() {
		a, err := Apart(l)
		if err != nil {
			t.Fatal(l, err)
		}
		partsOf(t, "Apart", l, a, together(l))
	}
}

func TestApartOfAllTriples(t *testing.T) {
	every := all()
	for _, a := range every {
		for _, b := range every {
			for _, c := range every {
				l := []api.Cube{a, b, c}
				m, err := Apart(l)
				if err != nil {
					t.Fatal(l, err)
				}
				partsOf(t, "Apart", l, m, together(l))
			}
		}
	}
}

func TestCountAndHeaders(t *testing.T) {
	for _, l := range lists() {
		want := together(l).rising()
		if h, err := Headers(l); !slices.Equal(h, want) || err != nil {
			t.Fatalf("Headers(%v) = %v, %v, want %v", l, h, err, want)
		}
		if n, err := Count(l); n != len(want) || err != nil {
			t.Fatalf("Count(%v) = %d, %v, want %d", l, n, err, len(want))
		}
	}
}

func TestSame(t *testing.T) {
	l := lists()
	for i, a := range l {
		for j := 0; j < len(l); j += 7 {
			b := l[(i+j)%len(l)]
			if is, err := Same(a, b); is != (together(a) == together(b)) || err != nil {
				t.Fatalf("Same(%v, %v) = %v, %v", a, b, is, err)
			}
		}
		parts, _ := Apart(a)
		if is, err := Same(a, parts); !is || err != nil {
			t.Fatalf("Same(%v, %v) = %v, %v", a, parts, is, err)
		}
	}
}

func TestSameChecksTheFirstListFirst(t *testing.T) {
	full := many(41, misfit)
	for _, x := range []struct {
		a, b []api.Cube
		want api.Errno
	}{
		{[]api.Cube{misfit}, []api.Cube{farMask}, api.ErrShape},
		{[]api.Cube{farMask}, []api.Cube{misfit}, api.ErrRange},
		{full, []api.Cube{farMask}, api.ErrFull},
		{[]api.Cube{everyone, misfit}, full, api.ErrShape},
		{[]api.Cube{everyone}, full, api.ErrFull},
		{[]api.Cube{misfit}, []api.Cube{misfit}, api.ErrShape},
	} {
		if is, err := Same(x.a, x.b); is || plain.Told(err) != x.want {
			t.Errorf("Same(%v, %v) = %v, %v, want %v", x.a, x.b, is, err, x.want)
		}
	}
}

// TestListsAreTheCallers: what is handed in stays as it was, and what comes out shares no memory with it.
func TestListsAreTheCallers(t *testing.T) {
	behind := api.Cube{Mask: 15, Bits: 13}
	for _, l := range lists() {
		in := append(slices.Clone(l), behind)
		given := in[:len(l)]
		m, _ := Minus(everyone, given)
		a, _ := Apart(given)
		answers(given)
		Has(given, 3)
		if !slices.Equal(in, append(slices.Clone(l), behind)) {
			t.Fatalf("%v was written into: %v", l, in)
		}
		for _, out := range [][]api.Cube{m, a} {
			out = out[:cap(out)]
			for i := range out {
				out[i] = misfit
			}
		}
		if !slices.Equal(in, append(slices.Clone(l), behind)) {
			t.Fatalf("%v shares memory with an answer", l)
		}
		again, _ := Apart(given)
		partsOf(t, "Apart", l, again, together(l))
	}
}
