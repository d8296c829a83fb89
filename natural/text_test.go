package natural_test

import (
	"math/big"
	"strings"
	"testing"

	"domino/api"
	"domino/natural"
)

func TestP1_3Text(t *testing.T) {
	l := samples(20)
	for _, n := range []uint64{10, 99, 100, 999999999, 1000000000, 1000000001, 999999999999999999, 1000000000000000000, 10000000000000000000} {
		l = append(l, natural.Of(n))
	}
	for _, a := range l {
		want := toBig(a).String()
		if got, err := natural.Text(a); got != want || err != api.OK {
			t.Errorf("Text(%q) is %q and %d, want %q", a, got, err, want)
		}
		if got, err := natural.Parse(want); got != a || err != api.OK {
			t.Errorf("Parse(%q) is %q and %d, want %q", want, got, err, a)
		}
	}
	for _, a := range invalid() {
		if got, err := natural.Text(a); got != "" || err != api.ErrForm {
			t.Errorf("Text(%q) is %q and %d, want ErrForm", a, got, err)
		}
	}
}

func TestP1_3ParseErrors(t *testing.T) {
	tooLong := new(big.Int).Lsh(big.NewInt(1), 8*api.MaxBytes)
	for _, c := range []struct {
		s   string
		err api.Errno
	}{
		{"", api.ErrSyntax}, {"00", api.ErrSyntax}, {"07", api.ErrSyntax}, {"-1", api.ErrSyntax}, {"+1", api.ErrSyntax}, {" 1", api.ErrSyntax}, {"1 ", api.ErrSyntax},
		{"1a", api.ErrSyntax}, {"a", api.ErrSyntax}, {"1/", api.ErrSyntax}, {"1:", api.ErrSyntax}, {"1_0", api.ErrSyntax}, {"1.0", api.ErrSyntax}, {"1\x00", api.ErrSyntax}, {"\u0661", api.ErrSyntax}, {"0x1", api.ErrSyntax},
		{tooLong.String(), api.ErrLong},
		{"9" + strings.Repeat("0", 308), api.ErrLong},
		{"1" + strings.Repeat("0", 309), api.ErrLong},
		{strings.Repeat("9", 100000), api.ErrLong},
		// The whole text is checked before the length of the number.
		{strings.Repeat("9", 400) + "x", api.ErrSyntax},
		{"0" + strings.Repeat("9", 400), api.ErrSyntax},
		{strings.Repeat("0", 400), api.ErrSyntax},
	} {
		if got, err := natural.Parse(c.s); got != "" || err != c.err {
			t.Errorf("Parse(%.20q) is %q and %d, want %d", c.s, got, err, c.err)
		}
	}
	greatest := new(big.Int).Sub(tooLong, big.NewInt(1)).String()
	if got, err := natural.Parse(greatest); got != bytes(api.MaxBytes, "\xff") || err != api.OK {
		t.Errorf("Parse of the greatest number is %q and %d", got, err)
	}
	if got, err := natural.Parse("0"); got != "" || err != api.OK {
		t.Errorf("Parse(\"0\") is %q and %d", got, err)
	}
}

// TestP1_3ParseBytes parses all strings of up to two bytes.
func TestP1_3ParseBytes(t *testing.T) {
	digit := func(b byte) bool { return '0' <= b && b <= '9' }
	for i := range 256 {
		for j := range 256 {
			s := string([]byte{byte(i), byte(j)})
			wantErr, want := api.ErrSyntax, api.Nat("")
			if digit(s[0]) && digit(s[1]) && s[0] != '0' {
				wantErr, want = api.OK, natural.Of(uint64(10*(i-'0')+j-'0'))
			}
			if got, err := natural.Parse(s); got != want || err != wantErr {
				t.Errorf("Parse(%q) is %q and %d, want %q and %d", s, got, err, want, wantErr)
			}
		}
	}
}
