package wire

import (
	"encoding/hex"
	"math"
	"testing"

	"railpoint/api"
	"railpoint/plain"
)

// ask, yes and do are the kinds of messages.
func ask(to, round, index int) api.Msg {
	return api.Msg{Kind: 2, Switch: to, Round: round, Index: index}
}

func yes(from, round int) api.Msg { return api.Msg{Kind: 3, Switch: from, Round: round} }

func do(to, round, index int, add bool, r api.Rule) api.Msg {
	return api.Msg{Kind: 1, Switch: to, Round: round, Index: index, Op: api.Op{Switch: to, Add: add, Rule: r}}
}

// rul is a rule by its numbers, in the order in which they are written.
func rul(prio, mask, bits, out, set, value int) api.Rule {
	return api.Rule{Prio: prio, Cube: api.Cube{Mask: mask, Bits: bits}, Out: out, Set: set, Value: value}
}

// shown has messages by their bytes, which are written out by hand: all kinds, and both ends of all numbers.
func shown() map[string]api.Msg {
	return map[string]api.Msg{
		"0201000003":               ask(1, 0, 0),
		"0206130722":               ask(6, 19, 7),
		"020613c8e3":               ask(6, 19, 200),
		"020100c8cb":               ask(1, 0, 200),
		"0301000004":               yes(1, 0),
		"030613001c":               yes(6, 19),
		"030413001a":               yes(4, 19),
		"010100000000000000000002": do(1, 0, 0, false, api.Rule{}),
		"010100000100000000000003": do(1, 0, 0, true, api.Rule{}),
		// 1 + 6 + 19 + 200 + 1 + 99 + 15 + 15 + 4 + 15 + 15 = 390, which is 139 more than 251.
		"010613c801630f0f040f0f8b": do(6, 19, 200, true, rul(99, 15, 15, 4, 15, 15)),
		// Each number is another one, so that none is taken for its neighbour: the sum is 78.
		"01020305001e0c080407064e": do(2, 3, 5, false, rul(30, 12, 8, 4, 7, 6)),
		"010203050163090102060485": do(2, 3, 5, true, rul(99, 9, 1, 2, 6, 4)),
		// Sums at the modulus: 250, 251 and 252.
		"010613c800180000000000fa": do(6, 19, 200, false, rul(24, 0, 0, 0, 0, 0)),
		"010613c80019000000000000": do(6, 19, 200, false, rul(25, 0, 0, 0, 0, 0)),
		"010613c80119000000000001": do(6, 19, 200, true, rul(25, 0, 0, 0, 0, 0)),
	}
}

// octets has the bytes that are shown.
func octets(shown string) string {
	b, err := hex.DecodeString(shown)
	if err != nil {
		panic(err)
	}
	return string(b)
}

// encodeIs asks that a message has these bytes, or this fault.
func encodeIs(t *testing.T, m api.Msg, want string, fault api.Errno) {
	t.Helper()
	got, err := Encode(m)
	if got != want || plain.Told(err) != fault {
		t.Errorf("Encode(%v): %x, %v, want %x, %v", m, got, err, want, fault)
	}
}

func TestEncode(t *testing.T) {
	for b, m := range shown() {
		encodeIs(t, m, octets(b), api.OK)
	}
}

// far has numbers that are right for nothing, some of which are right ones once they are cut to a byte or a word.
func far() []int {
	return []int{math.MinInt, math.MinInt + 1, -1 << 32, -256, -255, -1, 256, 257, 258, 1 << 32, 1<<32 + 1, 1<<32 + 2, math.MaxInt}
}

// starts has one right message of each kind.
func starts() []api.Msg {
	return []api.Msg{do(2, 3, 5, true, rul(30, 12, 8, 4, 7, 5)), ask(2, 3, 5), yes(2, 3)}
}

func TestEncodeNoKind(t *testing.T) {
	for _, kind := range append(far(), 0, 4, 5, 251, 252, 255) {
		for _, m := range starts() {
			m.Kind = kind
			encodeIs(t, m, "", api.ErrRange)
		}
		encodeIs(t, api.Msg{Kind: kind}, "", api.ErrRange)
	}
	encodeIs(t, api.Msg{}, "", api.ErrRange)
}

func TestEncodeNoSwitch(t *testing.T) {
	for _, a := range append(far(), 0, 7, 8, 255) {
		for _, m := range starts() {
			m.Switch = a
			encodeIs(t, m, "", api.ErrRange)
			// With an op of the same switch as well.
			m.Op.Switch = a
			encodeIs(t, m, "", api.ErrRange)
		}
	}
}

func TestEncodeNoRound(t *testing.T) {
	for _, round := range append(far(), 20, 21, 255) {
		for _, m := range starts() {
			m.Round = round
			encodeIs(t, m, "", api.ErrRange)
		}
	}
}

func TestEncodeNoIndex(t *testing.T) {
	for _, index := range append(far(), 201, 202, 250, 251, 255) {
		for _, m := range starts() {
			m.Index = index
			encodeIs(t, m, "", api.ErrRange)
		}
	}
}

// TestEncodeEdges: the last number that is right has no fault.
func TestEncodeEdges(t *testing.T) {
	for _, start := range starts() {
		for _, a := range []int{1, 6} {
			for _, round := range []int{0, 19} {
				m := start
				m.Switch, m.Round = a, round
				if m.Kind == api.Do {
					m.Op.Switch = a
				}
				if b, err := Encode(m); err != nil || b == "" {
					t.Errorf("Encode(%v): %x, %v", m, b, err)
				}
			}
		}
	}
}

// wrongRules has rules that are not right, by their faults.
func wrongRules() map[api.Rule]api.Errno {
	wrong := map[api.Rule]api.Errno{
		rul(100, 0, 0, 1, 0, 0):  api.ErrRange,
		rul(1, 0, 0, 5, 0, 0):    api.ErrRange,
		rul(1, 16, 0, 1, 0, 0):   api.ErrRange,
		rul(1, 15, 16, 1, 0, 0):  api.ErrRange,
		rul(1, 0, 0, 1, 16, 0):   api.ErrRange,
		rul(1, 0, 0, 1, 15, 16):  api.ErrRange,
		rul(1, 1, 2, 1, 0, 0):    api.ErrShape,
		rul(1, 0, 0, 1, 1, 2):    api.ErrShape,
		rul(1, 0, 0, 1, 0, 1):    api.ErrShape,
		rul(1, 0, 0, 0, 1, 0):    api.ErrShape,
		rul(1, 1, 2, 0, 1, 2):    api.ErrShape,
		rul(100, 1, 2, 0, 1, 2):  api.ErrRange,
		rul(1, 1, 2, 5, 1, 2):    api.ErrRange,
		rul(1, 1, 2, 1, 16, 16):  api.ErrRange,
		rul(1, 16, 16, 0, 1, 1):  api.ErrRange,
		rul(1, 15, 15, 0, 15, 0): api.ErrShape,
	}
	for _, n := range far() {
		wrong[rul(n, 0, 0, 1, 0, 0)] = api.ErrRange
		wrong[rul(1, n, 0, 1, 0, 0)] = api.ErrRange
		wrong[rul(1, 0, n, 1, 0, 0)] = api.ErrRange
		wrong[rul(1, 0, 0, n, 0, 0)] = api.ErrRange
		wrong[rul(1, 0, 0, 1, n, 0)] = api.ErrRange
		wrong[rul(1, 0, 0, 1, 0, n)] = api.ErrRange
	}
	return wrong
}

// TestEncodeWrongRule: its fault goes ahead of that of the op's switch, and behind those of the other numbers.
func TestEncodeWrongRule(t *testing.T) {
	for r, fault := range wrongRules() {
		for _, add := range []bool{false, true} {
			m := do(2, 3, 5, add, r)
			encodeIs(t, m, "", fault)
			m.Op.Switch = 3
			encodeIs(t, m, "", fault)
			m.Round = 20
			encodeIs(t, m, "", api.ErrRange)
		}
	}
}

// TestEncodeOpOfAnotherSwitch: of a Do whose rule is right.
func TestEncodeOpOfAnotherSwitch(t *testing.T) {
	for _, a := range append(far(), 0, 1, 3, 6, 7) {
		m := do(2, 3, 5, true, rul(30, 12, 8, 4, 7, 5))
		m.Op.Switch = a
		encodeIs(t, m, "", api.ErrShape)
		m.Index = 201
		encodeIs(t, m, "", api.ErrRange)
	}
}

// TestEncodeOpOfOthers: an Ask and a Yes have none, not even one that is right, or wrong in another way.
func TestEncodeOpOfOthers(t *testing.T) {
	ops := []api.Op{
		{Switch: 2},
		{Switch: -1},
		{Add: true},
		{Rule: rul(1, 0, 0, 0, 0, 0)},
		{Rule: rul(0, 1, 0, 0, 0, 0)},
		{Rule: rul(0, 0, 1, 0, 0, 0)},
		{Rule: rul(0, 0, 0, 1, 0, 0)},
		{Rule: rul(0, 0, 0, 0, 1, 0)},
		{Rule: rul(0, 0, 0, 0, 0, 1)},
		{Switch: 2, Add: true, Rule: rul(30, 12, 8, 4, 7, 5)},
		{Switch: 2, Add: true, Rule: rul(100, 16, 16, 5, 16, 16)},
	}
	for _, o := range ops {
		for _, m := range []api.Msg{ask(2, 3, 5), ask(2, 3, 0), yes(2, 3)} {
			m.Op = o
			encodeIs(t, m, "", api.ErrShape)
			m.Switch = 7
			encodeIs(t, m, "", api.ErrRange)
		}
	}
}

// TestEncodeIndexOfYes: 0, and no other one.
func TestEncodeIndexOfYes(t *testing.T) {
	for index := 1; index <= 200; index++ {
		m := yes(2, 3)
		m.Index = index
		encodeIs(t, m, "", api.ErrShape)
		m.Round = -1
		encodeIs(t, m, "", api.ErrRange)
	}
}
