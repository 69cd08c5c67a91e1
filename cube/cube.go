// Package cube has headers alike.
package cube

import (
	"math/bits"

	"railpoint/api"
)

// IsHeader tells whether a number is a header.
func IsHeader(n int) bool { return 0 <= n && n < 1<<api.Width }

// Check tells what is wrong with a cube.
func Check(c api.Cube) error {
	if !IsHeader(c.Mask) || !IsHeader(c.Bits) {
		return api.ErrRange
	}
	if c.Bits&^c.Mask != 0 {
		return api.ErrShape
	}
	return nil
}

// Has tells whether a header is in a cube.
func Has(c api.Cube, header int) bool {
	return isRight(c) && IsHeader(header) && header&c.Mask == c.Bits
}

// Print a cube.
func Print(c api.Cube) (string, error) {
	if err := Check(c); err != nil {
		return "", err
	}
	var text [api.Width]byte
	for i := range text {
		text[i] = letter(c, bitAt(i))
	}
	return string(text[:]), nil
}

// Parse a cube.
func Parse(text string) (api.Cube, error) {
	if len(text) != api.Width {
		return api.Cube{}, api.ErrSyntax
	}
	var c api.Cube
	for i := range api.Width {
		switch text[i] {
		case '1':
			c.Mask |= bitAt(i)
			c.Bits |= bitAt(i)
		case '0':
			c.Mask |= bitAt(i)
		case '*':
		default:
			return api.Cube{}, api.ErrSyntax
		}
	}
	return c, nil
}

// Meet of two cubes.
func Meet(a, b api.Cube) (api.Cube, bool) {
	if !isRight(a) || !isRight(b) {
		return api.Cube{}, false
	}
	// Only a bit that both masks have can keep two right cubes apart.
	if (a.Bits^b.Bits)&a.Mask&b.Mask != 0 {
		return api.Cube{}, false
	}
	return api.Cube{Mask: a.Mask | b.Mask, Bits: a.Bits | b.Bits}, true
}

// Inside tells whether one cube is in another one.
func Inside(a, b api.Cube) bool {
	// A right cube has a header, so a lies in b just where meeting b takes nothing from it.
	m, ok := Meet(a, b)
	return ok && m == a
}

// Count of headers.
func Count(c api.Cube) int {
	if !isRight(c) {
		return 0
	}
	return 1 << (api.Width - bits.OnesCount(uint(c.Mask)))
}

// First header.
func First(c api.Cube) int {
	if !isRight(c) {
		return 0
	}
	return c.Bits
}

func isRight(c api.Cube) bool { return Check(c) == nil }

// bitAt is the bit that the i-th byte of a text stands for: texts have the highest bit first.
func bitAt(i int) int { return 1 << (api.Width - 1 - i) }

func letter(c api.Cube, bit int) byte {
	switch {
	case c.Mask&bit == 0:
		return '*'
	case c.Bits&bit == 0:
		return '0'
	}
	return '1'
}
