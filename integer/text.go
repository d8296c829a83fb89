package integer

import (
	"strings"

	"domino/api"
	"domino/natural"
)

// Text returns the decimal digits of the magnitude of a, after a minus sign if a is negative.
func Text(a api.Int) (string, api.Errno) {
	if !Valid(a) {
		return "", api.ErrForm
	}
	text, err := natural.Text(a.Abs)
	if a.Neg {
		text = "-" + text
	}
	return text, err
}

// Parse returns the integer with the text s; ErrSyntax if s is not the text of an integer, then ErrLong if the integer is too long.
func Parse(s string) (api.Int, api.Errno) {
	text, neg := strings.CutPrefix(s, "-")
	abs, err := natural.Parse(text)
	switch {
	case err != api.OK:
		return api.Int{}, err
	case neg && abs == "":
		return api.Int{}, api.ErrSyntax
	}
	return signed(neg, abs), api.OK
}
