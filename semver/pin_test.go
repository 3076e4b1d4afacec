package semver_test

import (
	"strings"
	"testing"

	"touchstone/api"
	"touchstone/semver"
)

func pin(pkg string, major, minor, patch int) api.Pin {
	return api.Pin{Pkg: pkg, Version: version(major, minor, patch)}
}

// P5.4: names of letters and digits, with a letter first, of 1 to MaxPkg bytes.
func TestIsPkg(t *testing.T) {
	for _, s := range []string{"a", "z", "m", "ab", "a0", "z9", "list", "list2", "a1b2c3", "let", strings.Repeat("a", 19), strings.Repeat("z", 20), "a" + strings.Repeat("9", 19)} {
		if !semver.IsPkg(s) {
			t.Errorf("%q is none", s)
		}
	}
	for _, s := range []string{
		"", "0", "9", "1a", "0list", "A", "Z", "List", "aB", "listA", "a-b", "a_b", "a.b", "a b", " a", "a ", "a\n", "a\x00", "_a", "'a", "a'", "a@", "@", "a/1",
		"`", "{", "a`", "a{", "a/", "a:", "ä", "aä", "é", "а", "１", "a１", "\xFF", "a\xFF", strings.Repeat("a", 21), strings.Repeat("a", 400), "1" + strings.Repeat("a", 19),
	} {
		if semver.IsPkg(s) {
			t.Errorf("%q is one", s)
		}
	}
}

// P5.4: each byte, as the first one and as another one; all lengths.
func TestIsPkgBytes(t *testing.T) {
	for c := range 256 {
		s := string([]byte{byte(c)})
		letter, digit := c >= 'a' && c <= 'z', c >= '0' && c <= '9'
		if semver.IsPkg(s) != letter || semver.IsPkg(s+"a") != letter {
			t.Errorf("%q", s)
		}
		if semver.IsPkg("a"+s) != (letter || digit) || semver.IsPkg("a"+s+"b") != (letter || digit) || semver.IsPkg(strings.Repeat("a", 19)+s) != (letter || digit) {
			t.Errorf("a, %q", s)
		}
	}
	for n := range 100 {
		if semver.IsPkg(strings.Repeat("a", n)) != (n >= 1 && n <= api.MaxPkg) {
			t.Errorf("of %d letters", n)
		}
	}
}

// P5.4: pins, and what is in them.
func TestParsePin(t *testing.T) {
	wantPin(t, "a@1.20.3", pin("a", 1, 20, 3))
	wantPin(t, "list@0.0.0", pin("list", 0, 0, 0))
	wantPin(t, "a1@999999.999999.999999", pin("a1", most, most, most))
	wantPin(t, strings.Repeat("b", 20)+"@1.0.0", pin(strings.Repeat("b", 20), 1, 0, 0))
}

// P5.4: a name, or a version, that is none; both.
func TestParsePinParts(t *testing.T) {
	for _, s := range []string{"", "0", "1a", "A", "aB", "a-b", "a b", " a", "a ", "a.b", "ä", strings.Repeat("a", 21)} {
		wantNoPin(t, s+"@1.0.0", s+"@", s, s+"@1.0")
	}
	for _, s := range []string{"", "1", "1.0", "1.0.0.0", "01.0.0", "1.0.1000000", "-1.0.0", "+1.0.0", " 1.0.0", "1.0.0 ", "1.0.0\n", "1..0", ".1.0", "1.0.", "v1.0.0", "1.0.99999999999999999999"} {
		wantNoPin(t, "a@"+s)
	}
}

// P5.4: an @ that is missing, doubled, first, last, or another sign.
func TestParsePinSigns(t *testing.T) {
	wantNoPin(t, "", "@", "@@", "a", "a@", "@a", "@1.0.0", "1.0.0", "a1.0.0", "a@@1.0.0", "a@1.0.0@", "@a@1.0.0", "a@b@1.0.0", "a@1.0.0@1.0.0")
	wantNoPin(t, "a 1.0.0", "a/1.0.0", "a/1", "a:1.0.0", "a#1.0.0", "a.1.0.0", "1.0.0@a", "a @1.0.0", "a@ 1.0.0", " a@1.0.0", "a@1.0.0 ", "a@1@0@0", "a＠1.0.0")
}

// P5.4: all texts that are nearly a pin's, and short ones of some letters.
func TestParsePinNear(t *testing.T) {
	l := texts("a1.@", 7)
	for _, s := range []string{"a@1.20.3", "list@0.0.0", "m" + strings.Repeat("0", 19) + "@999999.0.10"} {
		l = append(l, near(s)...)
	}
	right := 0
	for _, s := range l {
		pkg, v, at := strings.Cut(s, "@")
		if !at || !pkgForm.MatchString(pkg) || !versionForm.MatchString(v) {
			wantNoPin(t, s)
			continue
		}
		right++
		wantPin(t, s, api.Pin{Pkg: pkg, Version: one(v)})
	}
	if right < 200 || right == len(l) {
		t.Fatalf("%d of %d are right", right, len(l))
	}
}
