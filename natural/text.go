package natural

import (
	"slices"

	"domino/api"
)

// maxText is the number of decimal digits of the greatest canonical number, 2^1024 - 1.
const maxText = 309

// The decimal digits of a text are calculated in groups, whose numbers fit in a digit.
const (
	groupDigits = 9
	groupBase   = 1000000000
)

// Text returns the decimal digits of a, without superfluous leading zeros.
func Text(a api.Nat) (string, api.Errno) {
	if !Valid(a) {
		return "", api.ErrForm
	}
	if a == "" {
		return "0", api.OK
	}
	var out []byte // the least significant digit first
	for x := digitsOf(a); len(x) > 0; {
		q, r := divideShort(x, groupBase)
		for range groupDigits {
			out = append(out, '0'+byte(r%10))
			r /= 10
		}
		x = trim(q)
	}
	for out[len(out)-1] == '0' {
		out = out[:len(out)-1]
	}
	slices.Reverse(out)
	return string(out), api.OK
}

// Parse returns the number with the text s; ErrSyntax if s is not the text of a number, then ErrLong if the number is too long.
func Parse(s string) (api.Nat, api.Errno) {
	if !decimal(s) {
		return "", api.ErrSyntax
	}
	// A long text is refused before it is calculated, which would take quadratic time.
	if len(s) > maxText {
		return "", api.ErrLong
	}
	var x []uint32
	for i := range len(s) {
		x = scale(x, 10, uint32(s[i]-'0'))
	}
	return natOf(x)
}

// decimal reports whether s consists of digits, without a superfluous leading zero.
func decimal(s string) bool {
	if s == "" || s[0] == '0' && len(s) > 1 {
		return false
	}
	for i := range len(s) {
		if s[i] < '0' || s[i] > '9' {
			return false
		}
	}
	return true
}
