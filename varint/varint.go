// Package varint has numbers as long as needed.
package varint

import (
	"slices"

	"wanderwire/api"
)

// form of a number: how many bytes it has, and the first number that is too great for so many.
type form struct{ long, end int }

// forms stand by what the two greatest bits of the first byte say.
var forms = [3]form{{1, 1 << 6}, {2, 1 << 14}, {4, api.MaxNumber + 1}}

// bitsOf a number: the place of the shortest form that it has.
func bitsOf(n int) (int, error) {
	if n < 0 {
		return 0, api.ErrRange
	}
	for bits, f := range forms {
		if n < f.end {
			return bits, nil
		}
	}
	return 0, api.ErrRange
}

// Long: how many bytes.
func Long(n int) (int, error) {
	bits, err := bitsOf(n)
	if err != nil {
		return 0, err
	}
	return forms[bits].long, nil
}

// Put a number.
func Put(n int) (string, error) {
	bits, err := bitsOf(n)
	if err != nil {
		return "", err
	}
	// The two bits stand just above the numbers of their form, so they count in its end.
	rest := n + bits*forms[bits].end
	b := make([]byte, forms[bits].long)
	for i := range slices.Backward(b) {
		b[i] = byte(rest)
		rest >>= 8
	}
	return string(b), nil
}

// Get a number.
func Get(b string) (int, int, error) {
	if len(b) == 0 {
		return 0, 0, api.ErrSyntax
	}
	bits := int(b[0] >> 6)
	if bits >= len(forms) || len(b) < forms[bits].long {
		return 0, 0, api.ErrSyntax
	}
	whole := 0
	for i := range forms[bits].long {
		whole = whole<<8 | int(b[i])
	}
	n := whole - bits*forms[bits].end
	if bits > 0 && n < forms[bits-1].end {
		return 0, 0, api.ErrSyntax
	}
	return n, forms[bits].long, nil
}

// All of some numbers.
func All(l []int) (string, error) {
	if len(l) > api.MaxLetters {
		return "", api.ErrFull
	}
	var all []byte
	for _, n := range l {
		b, err := Put(n)
		if err != nil {
			return "", err
		}
		all = append(all, b...)
	}
	return string(all), nil
}
