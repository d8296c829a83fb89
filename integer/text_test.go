package integer_test

import (
	"math/big"
	"strings"
	"testing"

	"domino/api"
	"domino/integer"
)

func TestP2_4Text(t *testing.T) {
	for _, a := range samples(20) {
		want := toBig(a).String()
		if got, err := integer.Text(a); got != want || err != api.OK {
			t.Errorf("Text(%v) is %q and %d, want %q", a, got, err, want)
		}
		if got, err := integer.Parse(want); got != a || err != api.OK {
			t.Errorf("Parse(%q) is %v and %d, want %v", want, got, err, a)
		}
	}
	for _, a := range invalid() {
		if got, err := integer.Text(a); got != "" || err != api.ErrForm {
			t.Errorf("Text(%v) is %q and %d, want ErrForm", a, got, err)
		}
	}
}

func TestP2_4ParseErrors(t *testing.T) {
	tooLong := new(big.Int).Lsh(big.NewInt(1), 8*api.MaxBytes).String()
	for _, c := range []struct {
		s   string
		err api.Errno
	}{
		{"", api.ErrSyntax}, {"-", api.ErrSyntax}, {"-0", api.ErrSyntax}, {"-00", api.ErrSyntax}, {"-01", api.ErrSyntax}, {"01", api.ErrSyntax}, {"--1", api.ErrSyntax}, {"+1", api.ErrSyntax},
		{"- 1", api.ErrSyntax}, {" -1", api.ErrSyntax}, {"1-", api.ErrSyntax}, {"-1x", api.ErrSyntax}, {"1-1", api.ErrSyntax}, {"\u22121", api.ErrSyntax}, {"-1\n", api.ErrSyntax},
		{tooLong, api.ErrLong}, {"-" + tooLong, api.ErrLong}, {"-" + strings.Repeat("9", 5000), api.ErrLong},
		{"-" + strings.Repeat("9", 400) + "-", api.ErrSyntax},
	} {
		if got, err := integer.Parse(c.s); got != (api.Int{}) || err != c.err {
			t.Errorf("Parse(%.20q) is %v and %d, want %d", c.s, got, err, c.err)
		}
	}
}

// TestP2_4Accepted checks for short strings over the interesting bytes that whatever Parse accepts is the text of its result.
func TestP2_4Accepted(t *testing.T) {
	const alphabet = "-+0159 /:"
	l := []string{""}
	for range 4 {
		var next []string
		for _, s := range l {
			for i := range len(alphabet) {
				next = append(next, s+alphabet[i:i+1])
			}
		}
		accepted := 0
		for _, s := range next {
			n, isNumber := new(big.Int).SetString(s, 10)
			isNumber = isNumber && n.String() == s
			a, err := integer.Parse(s)
			if (err == api.OK) != isNumber || err != api.OK && (err != api.ErrSyntax || a != (api.Int{})) {
				t.Errorf("Parse(%q) is %v and %d", s, a, err)
			}
			if err == api.OK {
				accepted++
				if text, _ := integer.Text(a); text != s {
					t.Errorf("Parse accepts %q as %q", s, text)
				}
			}
		}
		if accepted == 0 {
			t.Errorf("Parse accepts no string of the length %d", len(next[0]))
		}
		l = next
	}
}
