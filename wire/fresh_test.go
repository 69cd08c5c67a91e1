package wire

import (
	"slices"
	"strings"
	"testing"
	"unsafe"

	"railpoint/api"
)

// isPiece tells whether a text lies in the memory of another one.
func isPiece(piece, of string) bool {
	at, from := uintptr(unsafe.Pointer(unsafe.StringData(piece))), uintptr(unsafe.Pointer(unsafe.StringData(of)))
	return piece != "" && at >= from && at < from+uintptr(len(of))
}

// TestLeftSharesNoMemory: what is left is no piece of what was handed in, even if it is all of it.
func TestLeftSharesNoMemory(t *testing.T) {
	for _, ahead := range []string{"", octets("0201000003"), strings.Repeat(octets("0201000003"), 100)} {
		b := strings.Clone(ahead + "\x01\x02\x03")
		_, left, _ := Cut(b)
		if left != "\x01\x02\x03" || isPiece(left, b) {
			t.Errorf("Cut(%x) left %x, a piece of it: %v", b, left, isPiece(left, b))
		}
	}
}

// TestListsShareNoMemory: what is written over one answer is not seen in another one.
func TestListsShareNoMemory(t *testing.T) {
	b := strings.Repeat(octets("0201000003")+octets("030613001c"), 3)
	want := []api.Msg{ask(1, 0, 0), yes(6, 19), ask(1, 0, 0), yes(6, 19), ask(1, 0, 0), yes(6, 19)}
	one, _, _ := Cut(b)
	other, _, _ := Cut(b)
	clear(one[:cap(one)])
	if !slices.Equal(other, want) {
		t.Errorf("writing over one answer left %v of another one", other)
	}
	cutIs(t, b, want, "")
}

// TestAnswersHangOnArgumentsAlone: what was asked before is not to be told from what is answered now.
func TestAnswersHangOnArgumentsAlone(t *testing.T) {
	for range 3 {
		TestEncode(t)
		TestEncodeWrongRule(t)
		TestDecode(t)
		TestDecodeLength(t)
		TestCut(t)
		TestCutWrong(t)
	}
}
