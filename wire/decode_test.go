package wire

import (
	"strings"
	"testing"

	"railpoint/api"
	"railpoint/plain"
)

// decodeIs asks that bytes have this message, or this fault.
func decodeIs(t *testing.T, b string, want api.Msg, fault api.Errno) {
	t.Helper()
	got, err := Decode(b)
	if got != want || plain.Told(err) != fault {
		t.Errorf("Decode(%x): %v, %v, want %v, %v", b, got, err, want, fault)
	}
}

// noMessage asks that bytes are none.
func noMessage(t *testing.T, b string) {
	t.Helper()
	decodeIs(t, b, api.Msg{}, api.ErrSyntax)
}

// summed has bytes with their sum behind them.
func summed(b ...byte) string {
	sum := 0
	for _, x := range b {
		sum += int(x)
	}
	return string(append(b, byte(sum%251)))
}

func TestDecode(t *testing.T) {
	for b, m := range shown() {
		decodeIs(t, octets(b), m, api.OK)
	}
}

// TestDecodeLength: a byte less, a byte more, and two messages are none.
func TestDecodeLength(t *testing.T) {
	noMessage(t, "")
	for shown := range shown() {
		b := octets(shown)
		for n := range len(b) {
			noMessage(t, b[:n])
			noMessage(t, b[n+1:])
		}
		noMessage(t, b+"\x00")
		noMessage(t, "\x00"+b)
		noMessage(t, b+b)
	}
}

// TestDecodeSizesByKind: bytes with a right sum, but as many as another kind has.
func TestDecodeSizesByKind(t *testing.T) {
	for kind := range 256 {
		for n := range 30 {
			b := append([]byte{byte(kind), 1}, make([]byte, n)...)
			is := kind == 1 && n == 9 || (kind == 2 || kind == 3) && n == 2
			m := api.Msg{Kind: kind, Switch: 1}
			if kind == 1 {
				m.Op.Switch = 1
			}
			if is {
				decodeIs(t, summed(b...), m, api.OK)
			} else {
				noMessage(t, summed(b...))
			}
		}
	}
}

// TestDecodeOneByteChanged: the sum tells each change of one byte, or the byte is out of its range.
func TestDecodeOneByteChanged(t *testing.T) {
	for shown := range shown() {
		b := octets(shown)
		for i := range len(b) {
			for x := range 256 {
				if changed := b[:i] + string([]byte{byte(x)}) + b[i+1:]; changed != b {
					noMessage(t, changed)
				}
			}
		}
	}
}

// TestDecodeSumBeyondModulus: a sum is below 251, though a greater byte is as much modulo 251.
func TestDecodeSumBeyondModulus(t *testing.T) {
	decodeIs(t, octets("010613c80019000000000000"), do(6, 19, 200, false, rul(25, 0, 0, 0, 0, 0)), api.OK)
	noMessage(t, octets("010613c800190000000000fb"))
	decodeIs(t, octets("0201000003"), ask(1, 0, 0), api.OK)
	noMessage(t, octets("02010000fe"))
	decodeIs(t, octets("0301000004"), yes(1, 0), api.OK)
	noMessage(t, octets("03010000ff"))
}

// TestDecodeRanges: each byte of a message alone, with a sum that fits.
func TestDecodeRanges(t *testing.T) {
	start := []byte{1, 2, 3, 5, 1, 30, 12, 8, 4, 7, 5}
	right := []func(x int) bool{
		func(x int) bool { return x == 1 },
		func(x int) bool { return x >= 1 && x <= 6 },
		func(x int) bool { return x <= 19 },
		func(x int) bool { return x <= 200 },
		func(x int) bool { return x <= 1 },
		func(x int) bool { return x <= 99 },
		func(x int) bool { return x <= 15 && x&8 == 8 },
		func(x int) bool { return x <= 15 && x&3 == 0 },
		func(x int) bool { return x >= 1 && x <= 4 },
		func(x int) bool { return x <= 15 && x&5 == 5 },
		func(x int) bool { return x <= 7 },
	}
	for i, is := range right {
		for x := range 256 {
			b := append([]byte(nil), start...)
			b[i] = byte(x)
			if !is(x) {
				noMessage(t, summed(b...))
				continue
			}
			n := func(j int) int { return int(b[j]) }
			m := do(n(1), n(2), n(3), n(4) == 1, rul(n(5), n(6), n(7), n(8), n(9), n(10)))
			decodeIs(t, summed(b...), m, api.OK)
		}
	}
}

// TestDecodeAllPlain: all bytes of an Ask and a Yes that are near to right ones.
func TestDecodeAllPlain(t *testing.T) {
	for kind := 2; kind <= 3; kind++ {
		for a := range 9 {
			for round := range 23 {
				for index := range 256 {
					b := summed(byte(kind), byte(a), byte(round), byte(index))
					if a < 1 || a > 6 || round > 19 || index > 200 || kind == 3 && index != 0 {
						noMessage(t, b)
						continue
					}
					decodeIs(t, b, api.Msg{Kind: kind, Switch: a, Round: round, Index: index}, api.OK)
				}
			}
		}
	}
}

// TestDecodeLongBytes: a great many bytes are none, whatever they begin with.
func TestDecodeLongBytes(t *testing.T) {
	for _, b := range []string{"\x00", "\x01", "\x02", "\x03", "\xff", octets("0201000003")} {
		noMessage(t, strings.Repeat(b, 100_000))
	}
}
