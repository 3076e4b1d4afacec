package semver_test

import (
	"fmt"
	"math"
	"strings"
	"testing"

	"touchstone/api"
	"touchstone/semver"
)

// P5.1, example 1: texts of right versions.
func TestParse(t *testing.T) {
	wantParse(t, "1.20.3", version(1, 20, 3))
	wantParse(t, "0.0.0", version(0, 0, 0))
	wantParse(t, "0.0.1", version(0, 0, 1))
	wantParse(t, "10.0.100", version(10, 0, 100))
	wantParse(t, "123456.789012.345678", version(123456, 789012, 345678))
	wantParse(t, "999999.999999.999999", version(most, most, most))
	wantParse(t, "999998.0.999999", version(most-1, 0, most))
}

// P5.1: numbers that are more than MaxNumber, up to such as no int has, at each place.
func TestParseGreat(t *testing.T) {
	for _, n := range []string{
		"1000000", "1000001", "9999990", "9999999", "2147483648", "4294967296", "4294967297", "9223372036854775807", "9223372036854775808",
		"18446744073709551616", "18446744073709551617", "18446744073709551616000001", strings.Repeat("9", 400), "1" + strings.Repeat("0", 100000),
	} {
		wantNoVersion(t, n+".0.0", "0."+n+".0", "0.0."+n, n+"."+n+"."+n)
	}
}

// P5.1: a 0 ahead of other digits, at each place; a 0 alone is a number.
func TestParseNought(t *testing.T) {
	for _, n := range []string{"00", "01", "007", "000000", "0999999", "0000001"} {
		wantNoVersion(t, n+".1.1", "1."+n+".1", "1.1."+n)
	}
	wantParse(t, "0.1.1", version(0, 1, 1))
	wantParse(t, "1.0.1", version(1, 0, 1))
	wantParse(t, "1.1.0", version(1, 1, 0))
}

// P5.1: another number of numbers than three.
func TestParseOtherCount(t *testing.T) {
	wantNoVersion(t, "", "1", "1.2", "1.2.3.4", "1.2.3.4.5", "0", "0.0", "0.0.0.0")
	wantNoVersion(t, ".", "..", "...", "1.", "1..", "1.2.", ".1", ".1.2", "..1", "1..2", "1.2.3.", ".1.2.3", "1..2.3", "1.2..3", "1...3", "..3")
	wantNoVersion(t, strings.Repeat("1.", 50000)+"1", strings.Repeat(".", 50000))
}

// P5.1: signs, blanks and other letters.
func TestParseOtherLetters(t *testing.T) {
	for _, n := range []string{"-1", "+1", "-0", "+0", " 1", "1 ", "\t1", "1\n", "1_0", "0x1", "1e1", "a", "v1", "1a", "½", "١", "１", "1\x00", "\xFF", "/", ":", "-", "+", " "} {
		wantNoVersion(t, n+".1.1", "1."+n+".1", "1.1."+n)
	}
	wantNoVersion(t, "v1.2.3", "1.2.3-rc", "1.2.3+b", "1,2,3", "1:2:3", "1 2 3", "a@1.2.3", "1.2.3@", "\"1.2.3\"")
}

// P5.1: all texts of some letters that are short, and all that are nearly a version's.
func TestParseNear(t *testing.T) {
	l := texts("012.-", 7)
	for _, s := range []string{"1.20.3", "0.0.0", "999999.999999.999999", "10.100.1000", "7.0.54321"} {
		l = append(l, near(s)...)
	}
	right := 0
	for _, s := range l {
		if !versionForm.MatchString(s) {
			wantNoVersion(t, s)
			continue
		}
		right++
		wantParse(t, s, one(s))
	}
	if right < 500 || right == len(l) {
		t.Fatalf("%d of %d are right", right, len(l))
	}
}

// P5.1: a right version is of numbers from 0 to MaxNumber, each of them; it has a text, no other has.
func TestRightAndPrint(t *testing.T) {
	for _, a := range edges {
		for _, b := range edges {
			for _, c := range edges {
				v, wanted := version(a, b, c), ""
				right := rightNumber(a) && rightNumber(b) && rightNumber(c)
				if right {
					wanted = fmt.Sprintf("%d.%d.%d", a, b, c)
				}
				if semver.Right(v) != right {
					t.Fatalf("Right(%v): %v", v, !right)
				}
				if got := semver.Print(v); got != wanted {
					t.Fatalf("Print(%v): %q, not %q", v, got, wanted)
				}
			}
		}
	}
}

// P5.1: texts that are known.
func TestPrint(t *testing.T) {
	for s, v := range map[string]api.Version{
		"1.20.3": version(1, 20, 3), "0.0.0": {}, "999999.999999.999999": version(most, most, most), "10.200.3000": version(10, 200, 3000),
		"": version(0, 0, most+1),
	} {
		if got := semver.Print(v); got != s {
			t.Errorf("Print(%v): %q, not %q", v, got, s)
		}
	}
	for _, v := range []api.Version{version(-1, 0, 0), version(0, -1, 0), version(0, 0, -1), version(math.MinInt, 0, 0), version(0, math.MaxInt, 0)} {
		if got := semver.Print(v); got != "" {
			t.Errorf("Print(%v): %q", v, got)
		}
	}
}
