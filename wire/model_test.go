package wire

import (
	"math/rand"
	"slices"
	"testing"

	"railpoint/api"
	"railpoint/plain"
)

// bound is what a byte of a message may be at most; the least is 0 but for Kind and Switch.
var bound = []byte{3, 6, 19, 200, 1, 99, 15, 15, 4, 15, 15}

// everyRule has all right rules of a Prio.
func everyRule(prio int) (l []api.Rule) {
	for mask := range 16 {
		for bits := range 16 {
			for out := range 5 {
				for set := range 16 {
					for value := range 16 {
						if bits|mask == mask && value|set == set && (out > 0 || set == 0) {
							l = append(l, rul(prio, mask, bits, out, set, value))
						}
					}
				}
			}
		}
	}
	return l
}

// ruleBytes has what is written of a rule.
func ruleBytes(r api.Rule) []byte {
	return []byte{byte(r.Prio), byte(r.Cube.Mask), byte(r.Cube.Bits), byte(r.Out), byte(r.Set), byte(r.Value)}
}

// TestThereAndBackDo: every rule, with some of the other numbers.
func TestThereAndBackDo(t *testing.T) {
	for _, prio := range []int{0, 1, 50, 98, 99} {
		for i, r := range everyRule(prio) {
			to, round, index, add := 1+i%6, i%20, i%201, i%7%2
			m := do(to, round, index, add == 1, r)
			b := summed(append([]byte{1, byte(to), byte(round), byte(index), byte(add)}, ruleBytes(r)...)...)
			encodeIs(t, m, b, api.OK)
			decodeIs(t, b, m, api.OK)
			cutIs(t, b, []api.Msg{m}, "")
		}
	}
}

// TestThereAndBackPlain: every Ask and every Yes.
func TestThereAndBackPlain(t *testing.T) {
	for to := 1; to <= 6; to++ {
		for round := range 20 {
			for index := range 201 {
				b := summed(2, byte(to), byte(round), byte(index))
				encodeIs(t, ask(to, round, index), b, api.OK)
				decodeIs(t, b, ask(to, round, index), api.OK)
			}
			b := summed(3, byte(to), byte(round), 0)
			encodeIs(t, yes(to, round), b, api.OK)
			decodeIs(t, b, yes(to, round), api.OK)
		}
	}
}

// isMessage tells of bytes without their sum whether they are those of a message.
func isMessage(b []byte) bool {
	if len(b) == 0 || b[0] < 1 || b[0] > 3 || len(b) != []int{11, 4, 4}[b[0]-1] || b[1] == 0 {
		return false
	}
	for i, x := range b {
		if x > bound[i] {
			return false
		}
	}
	if b[0] == 3 {
		return b[3] == 0
	}
	return b[0] == 2 || b[7]&^b[6] == 0 && b[10]&^b[9] == 0 && (b[8] != 0 || b[9] == 0)
}

// messageOf has the message of bytes that are one.
func messageOf(b []byte) api.Msg {
	m := api.Msg{Kind: int(b[0]), Switch: int(b[1]), Round: int(b[2]), Index: int(b[3])}
	if m.Kind == 1 {
		n := func(i int) int { return int(b[i]) }
		m.Op = api.Op{Switch: m.Switch, Add: b[4] == 1, Rule: rul(n(5), n(6), n(7), n(8), n(9), n(10))}
	}
	return m
}

// cutByBytes cuts bytes by the places at which messages begin and end.
func cutByBytes(b string) ([]api.Msg, string, bool) {
	var out []api.Msg
	at := 0
	for at < len(b) {
		if b[at] < 1 || b[at] > 3 {
			return nil, "", false
		}
		end := at + []int{12, 5, 5}[b[at]-1]
		if end > len(b) {
			return out, b[at:], true
		}
		body := []byte(b[at : end-1])
		if !isMessage(body) || summed(body...) != b[at:end] {
			return nil, "", false
		}
		out = append(out, messageOf(body))
		at = end
	}
	return out, "", true
}

// randomBody has bytes that often are those of a message, but for the sum.
func randomBody(r *rand.Rand) []byte {
	b := make([]byte, 11)
	for i := range b {
		b[i] = byte(r.Intn(int(bound[i]) + 1))
	}
	b[0], b[1] = byte(1+r.Intn(3)), byte(1+r.Intn(6))
	b[7] &= b[6]
	b[10] &= b[9]
	if b[8] == 0 {
		b[9], b[10] = 0, 0
	}
	if b[0] == 3 {
		b[3] = 0
	}
	if b[0] != 1 {
		b = b[:4]
	}
	if r.Intn(40) == 0 {
		i := r.Intn(len(b))
		b[i] = []byte{0, 1, b[i] + 1, bound[i] + 1, 255, byte(r.Intn(256))}[r.Intn(6)]
	}
	return b
}

// randomBytes has some messages, one behind the other, a few of them wrong, and a part of one more.
func randomBytes(r *rand.Rand) string {
	var b []byte
	for range r.Intn(6) {
		b = append(b, summed(randomBody(r)...)...)
	}
	if r.Intn(2) == 0 {
		last := summed(randomBody(r)...)
		b = append(b, last[:r.Intn(len(last))]...)
	}
	if len(b) > 0 && r.Intn(10) == 0 {
		b[r.Intn(len(b))] = byte(r.Intn(256))
	}
	return string(b)
}

// TestCutByBytes: random bytes, right and wrong ones, are cut as they are cut byte by byte.
func TestCutByBytes(t *testing.T) {
	r := rand.New(rand.NewSource(13))
	right, wrong, left := 0, 0, 0
	for range 200_000 {
		b := randomBytes(r)
		l, rest, ok := cutByBytes(b)
		if !ok {
			wrong++
			noCut(t, b)
			continue
		}
		right++
		if rest != "" {
			left++
		}
		cutIs(t, b, l, rest)
	}
	if right < 10_000 || wrong < 10_000 || left < 10_000 {
		t.Errorf("too few of a kind: %d right, %d wrong, %d left", right, wrong, left)
	}
}

// TestDecodeByBytes: one message, random, right or wrong.
func TestDecodeByBytes(t *testing.T) {
	r := rand.New(rand.NewSource(31))
	for range 200_000 {
		body := randomBody(r)
		if isMessage(body) {
			decodeIs(t, summed(body...), messageOf(body), api.OK)
		} else {
			noMessage(t, summed(body...))
		}
	}
}

// faultOf tells what is wrong with a message, number by number, as the chapters list it.
func faultOf(m api.Msg) api.Errno {
	in := func(n, least, most int) bool { return n >= least && n <= most }
	r := m.Op.Rule
	if !in(m.Kind, 1, 3) || !in(m.Switch, 1, 6) || !in(m.Round, 0, 19) || !in(m.Index, 0, 200) {
		return api.ErrRange
	}
	if m.Kind != 1 {
		if m.Op != (api.Op{}) || m.Kind == 3 && m.Index != 0 {
			return api.ErrShape
		}
		return api.OK
	}
	if !in(r.Prio, 0, 99) || !in(r.Cube.Mask, 0, 15) || !in(r.Cube.Bits, 0, 15) ||
		!in(r.Out, 0, 4) || !in(r.Set, 0, 15) || !in(r.Value, 0, 15) {
		return api.ErrRange
	}
	if r.Cube.Bits&^r.Cube.Mask != 0 || r.Value&^r.Set != 0 || r.Out == 0 && r.Set != 0 || m.Op.Switch != m.Switch {
		return api.ErrShape
	}
	return api.OK
}

// TestEncodeByNumbers: messages with one or two numbers changed have the fault that is listed first.
func TestEncodeByNumbers(t *testing.T) {
	r := rand.New(rand.NewSource(45))
	seen := map[api.Errno]int{}
	values := append(far(), 0, 1, 2, 3, 4, 5, 6, 7, 15, 16, 19, 20, 99, 100, 200, 201, 255)
	for range 200_000 {
		m := starts()[r.Intn(3)]
		numbers := []*int{&m.Kind, &m.Switch, &m.Round, &m.Index, &m.Op.Switch, &m.Op.Rule.Prio, &m.Op.Rule.Cube.Mask,
			&m.Op.Rule.Cube.Bits, &m.Op.Rule.Out, &m.Op.Rule.Set, &m.Op.Rule.Value}
		for range r.Intn(3) {
			*numbers[r.Intn(len(numbers))] = values[r.Intn(len(values))]
		}
		want := faultOf(m)
		seen[want]++
		b, err := Encode(m)
		if plain.Told(err) != want || (b == "") != (want != api.OK) {
			t.Fatalf("Encode(%v): %x, %v, want %v", m, b, err, want)
		}
		if want == api.OK {
			decodeIs(t, b, m, api.OK)
		}
	}
	if slices.Min([]int{seen[api.OK], seen[api.ErrRange], seen[api.ErrShape]}) < 10_000 {
		t.Errorf("too few of a kind: %v", seen)
	}
}
