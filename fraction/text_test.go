package fraction_test

import (
	"math/big"
	"regexp"
	"strings"
	"testing"

	"wireloom/api"
	"wireloom/fraction"
)

var form = regexp.MustCompile(`^(0|-?[1-9][0-9]*)(/[1-9][0-9]*)?$`)

// parsed returns the valid fraction of a string as the chapter says it.
func parsed(s string) (api.Frac, api.Errno) {
	r, ok := new(big.Rat).SetString(s)
	if !form.MatchString(s) || !ok || r.RatString() != s {
		return api.Frac{}, api.ErrForm
	}
	a, e := representing(r)
	if e != api.OK {
		return api.Frac{}, api.ErrForm
	}
	return a, api.OK
}

func checkParse(t *testing.T, s string) {
	t.Helper()
	want, wantError := parsed(s)
	if got, e := fraction.Parse(s); got != want || e != wantError {
		t.Errorf("Parse(%q): %v, %d, want %v, %d", s, got, e, want, wantError)
	}
}

func TestP2_6Inverse(t *testing.T) {
	eachFraction(func(a api.Frac) {
		if got, e := fraction.Parse(fraction.Text(a)); got != a || e != api.OK {
			t.Errorf("%q: %v, %d", fraction.Text(a), got, e)
		}
	})
}

func TestP2_6Rejected(t *testing.T) {
	for _, s := range []string{
		"", "-", "/", "-/", "0/1", "0/2", "-0", "-0/1", "00", "01", "+1", "1/+2", "--1", "1-", "1.0", "1e3", "0x1", "1_0",
		"1/", "/2", "1/0", "0/0", "1/1", "1/-2", "-1/-2", "1/02", "01/2", "2/4", "4/2", "1/2/3", "1//2", "-6/3",
		" 1", "1 ", "1 /2", "1/ 2", "1\n", "\t1", "1\x00", "１", "½", "−1", "\xff",
		"4611686018427387905", "-4611686018427387905", "1/4611686018427387905", "9223372036854775807", "-9223372036854775808",
		"9223372036854775808", "18446744073709551617", "18446744073709551617/2", "1/18446744073709551618",
		strings.Repeat("9", 1000), "1/" + strings.Repeat("9", 1000), strings.Repeat("0", 1000) + "1",
	} {
		if got, e := fraction.Parse(s); got != f(0, 0) || e != api.ErrForm {
			t.Errorf("Parse(%q): %v, %d", s, got, e)
		}
		checkParse(t, s)
	}
}

func TestP2_6ShortStrings(t *testing.T) {
	texts := []string{""}
	for range 5 {
		var longer []string
		for _, s := range texts {
			checkParse(t, s)
			for _, c := range "-/0126+ " {
				longer = append(longer, s+string(c))
			}
		}
		texts = longer
	}
	for _, s := range texts {
		checkParse(t, s)
	}
}

// Texts with one character more, less or changed.
func TestP2_6Changed(t *testing.T) {
	for _, a := range fractions() {
		s := fraction.Text(a)
		for i := range len(s) + 1 {
			for _, c := range []string{"", "0", "1", "4", "-", "/", "+", " "} {
				checkParse(t, s[:i]+c+s[i:])
				if i < len(s) {
					checkParse(t, s[:i]+c+s[i+1:])
				}
			}
		}
	}
}
