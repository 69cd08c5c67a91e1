package wire

import (
	"slices"
	"strings"
	"testing"

	"railpoint/api"
	"railpoint/plain"
)

// cutIs asks that bytes are these messages, and what is left.
func cutIs(t *testing.T, b string, want []api.Msg, left string) {
	t.Helper()
	got, rest, err := Cut(b)
	if !slices.Equal(got, want) || rest != left || err != nil {
		t.Errorf("Cut(%x): %v, %x, %v, want %v, %x", b, got, rest, err, want, left)
	}
}

// noCut asks that bytes are no messages.
func noCut(t *testing.T, b string) {
	t.Helper()
	if got, rest, err := Cut(b); len(got) != 0 || rest != "" || plain.Told(err) != api.ErrSyntax {
		t.Errorf("Cut(%x): %v, %x, %v, want ErrSyntax", b, got, rest, err)
	}
}

func TestCutNothing(t *testing.T) { cutIs(t, "", nil, "") }

// TestCut: one message, and any two and three of them, in each order.
func TestCut(t *testing.T) {
	for a, m := range shown() {
		cutIs(t, octets(a), []api.Msg{m}, "")
		for b, n := range shown() {
			cutIs(t, octets(a)+octets(b), []api.Msg{m, n}, "")
			for c, o := range shown() {
				cutIs(t, octets(a)+octets(b)+octets(c), []api.Msg{m, n, o}, "")
			}
		}
	}
}

// TestCutLeft: what begins as a message, and is too short for one, is left, be it as it may but for its Kind.
func TestCutLeft(t *testing.T) {
	ahead := octets("0302010006")
	for shown := range shown() {
		b := octets(shown)
		for n := range len(b) {
			cutIs(t, b[:n], nil, b[:n])
			cutIs(t, ahead+b[:n], []api.Msg{yes(2, 1)}, b[:n])
			cutIs(t, ahead+ahead+b[:n], []api.Msg{yes(2, 1), yes(2, 1)}, b[:n])
		}
	}
	for _, left := range []string{"\x01\xff", "\x02\xff\xff\xff", "\x03\x00\x00\x07", "\x01" + strings.Repeat("\xff", 10)} {
		cutIs(t, left, nil, left)
		cutIs(t, ahead+left, []api.Msg{yes(2, 1)}, left)
	}
}

// TestCutLeftHasAKind: even one byte that is left tells its Kind.
func TestCutLeftHasAKind(t *testing.T) {
	ahead := octets("0302010006")
	for kind := range 256 {
		b := string([]byte{byte(kind)})
		if kind >= 1 && kind <= 3 {
			cutIs(t, b, nil, b)
			cutIs(t, ahead+b, []api.Msg{yes(2, 1)}, b)
			continue
		}
		for _, behind := range []string{"", "\x01", ahead, strings.Repeat("\x01", 11), strings.Repeat("\x00", 20)} {
			noCut(t, b+behind)
			noCut(t, ahead+b+behind)
		}
	}
}

// TestCutWrong: a message that is none, as the first, in the midst and at last; what is ahead of it is not told.
func TestCutWrong(t *testing.T) {
	ahead := octets("01020305001e0c080407054d") + octets("0302010006")
	for shown := range shown() {
		b := octets(shown)
		for i := 1; i < len(b); i++ {
			wrong := b[:i] + string([]byte{b[i] + 1}) + b[i+1:]
			noCut(t, wrong)
			noCut(t, wrong+ahead)
			noCut(t, ahead+wrong)
			noCut(t, ahead+wrong+ahead)
			noCut(t, ahead+wrong+"\x02")
		}
	}
}

// TestCutWrongWithARightSum: a message that Encode would not write.
func TestCutWrongWithARightSum(t *testing.T) {
	ahead := octets("0302010006")
	for _, wrong := range []string{
		summed(3, 2, 1, 1),
		summed(2, 0, 0, 0),
		summed(2, 7, 0, 0),
		summed(2, 1, 20, 0),
		summed(2, 1, 0, 201),
		summed(1, 1, 0, 0, 2, 0, 0, 0, 0, 0, 0),
		summed(1, 1, 0, 0, 1, 100, 0, 0, 0, 0, 0),
		summed(1, 1, 0, 0, 1, 0, 1, 2, 0, 0, 0),
		summed(1, 1, 0, 0, 1, 0, 0, 0, 0, 1, 0),
		summed(1, 1, 0, 0, 1, 0, 0, 0, 1, 1, 2),
		summed(1, 1, 0, 0, 1, 0, 0, 0, 5, 0, 0),
	} {
		noCut(t, wrong)
		noCut(t, wrong+ahead)
		noCut(t, ahead+wrong)
	}
}

// TestCutMany: what is wrong, and what is left, far behind is told as well.
func TestCutMany(t *testing.T) {
	const many = 20_000
	one := octets("010203050163090102060485") + octets("020613c8e3") + octets("0301000004")
	var want []api.Msg
	for range many {
		want = append(want, do(2, 3, 5, true, rul(99, 9, 1, 2, 6, 4)), ask(6, 19, 200), yes(1, 0))
	}
	b := strings.Repeat(one, many)
	cutIs(t, b, want, "")
	cutIs(t, b+"\x01\x09", want, "\x01\x09")
	noCut(t, b+"\x04")
	noCut(t, b+summed(3, 1, 0, 1))
}
