package lex_test

import (
	"strings"
	"testing"

	"touchstone/api"
	"touchstone/lex"
)

// P6.1: ints of one digit to eighteen, with - and without, and of one more.
func TestInts(t *testing.T) {
	wantLex(t, "0", number(0, 0))
	wantLex(t, "0 0", number(0, 0), number(2, 0))
	wantLex(t, "7 -7 10 -10 42", number(0, 7), number(2, -7), number(5, 10), number(8, -10), number(12, 42))
	wantLex(t, "100000000000000000", number(0, 100000000000000000))
	wantLex(t, "999999999999999999", number(0, mostInt))
	wantLex(t, "-999999999999999999", number(0, -mostInt))
	wantLex(t, "(123456789012345678)", sign(0, "("), number(1, 123456789012345678), sign(19, ")"))
	wantLex(t, "1 2-3", number(0, 1), number(2, 2), number(3, -3))
	wantLex(t, "1000000-1000000", number(0, 1000000), number(7, -1000000))
	for n, s := 1, "1"; len(s) <= 18; s, n = s+"0", n*10 {
		wantLex(t, s+" -"+s, number(0, n), number(len(s)+1, -n))
	}
	for _, s := range []string{"1000000000000000000", "9999999999999999999", "9223372036854775807", "9223372036854775808", "18446744073709551617", "1" + strings.Repeat("0", 5000), strings.Repeat("7", 19)} {
		wantForm(t, s, 0)
		wantForm(t, "-"+s, 0)
		wantForm(t, "= "+s+" =", 2)
		wantForm(t, "= -"+s+" =", 2)
		wantForm(t, s+".1.1", 0)
	}
}

// P6.1: no int is -0, nor has a 0 ahead of others.
func TestIntsNought(t *testing.T) {
	for _, s := range []string{"-0", "-00", "-01", "-0.0.0", "-0a", "-0 1"} {
		wantForm(t, s, 0)
		wantForm(t, "1 "+s, 2)
	}
	for _, s := range []string{"00", "01", "007", "0999", "000000000000000001", strings.Repeat("0", 18)} {
		if l, _, e := lex.Lex(s); e == api.OK && len(l) < 2 {
			t.Fatalf("Lex(%q): %v", s, l)
		}
	}
	wantLex(t, "0-1", number(0, 0), number(1, -1))
	wantLex(t, "0a", number(0, 0), lower(1, "a"))
	wantLex(t, "0)0", number(0, 0), sign(1, ")"), number(2, 0))
}

// P6.1: a version is ahead of an int.
func TestVersions(t *testing.T) {
	for _, s := range []string{"1.2.3", "0.0.0", "0.0.1", "10.20.30", "999999.999999.999999", "1.0.0"} {
		wantLex(t, s, version(0, s))
		wantLex(t, "a@"+s+";", lower(0, "a"), sign(1, "@"), version(2, s), sign(2+len(s), ";"))
		wantLex(t, s+" 1", version(0, s), number(len(s)+1, 1))
		wantLex(t, "1 "+s, number(0, 1), version(2, s))
		wantLex(t, s+"-1", version(0, s), number(len(s), -1))
		wantLex(t, s+" "+s, version(0, s), version(len(s)+1, s))
		wantLex(t, s+".4", version(0, s), sign(len(s), "."), number(len(s)+1, 4))
		wantLex(t, s+".a", version(0, s), sign(len(s), "."), lower(len(s)+1, "a"))
	}
	wantLex(t, "1.2.3.4.5.6", version(0, "1.2.3"), sign(5, "."), version(6, "4.5.6"))
}

// P6.1: what is nearly a version is ints and points.
func TestNearlyVersions(t *testing.T) {
	wantLex(t, "1.2", number(0, 1), sign(1, "."), number(2, 2))
	wantLex(t, "1.", number(0, 1), sign(1, "."))
	wantLex(t, "1.2.", number(0, 1), sign(1, "."), number(2, 2), sign(3, "."))
	wantLex(t, ".1.2", sign(0, "."), number(1, 1), sign(2, "."), number(3, 2))
	wantLex(t, ".1.2.3", sign(0, "."), version(1, "1.2.3"))
	wantLex(t, "1..2.3", number(0, 1), sign(1, "."), sign(2, "."), number(3, 2), sign(4, "."), number(5, 3))
	wantLex(t, "1 .2.3", number(0, 1), sign(2, "."), number(3, 2), sign(4, "."), number(5, 3))
	wantLex(t, "1.2. 3", number(0, 1), sign(1, "."), number(2, 2), sign(3, "."), number(5, 3))
	wantLex(t, "1.2.a", number(0, 1), sign(1, "."), number(2, 2), sign(3, "."), lower(4, "a"))
	wantLex(t, "1.2.-3", number(0, 1), sign(1, "."), number(2, 2), sign(3, "."), number(4, -3))
	wantLex(t, "1.-2.3", number(0, 1), sign(1, "."), number(2, -2), sign(4, "."), number(5, 3))
	wantLex(t, "-1.2.3", number(0, -1), sign(2, "."), number(3, 2), sign(4, "."), number(5, 3))
	wantLex(t, "-1.2.3.4", number(0, -1), sign(2, "."), version(3, "2.3.4"))
	wantLex(t, "1000000.2.3", number(0, 1000000), sign(7, "."), number(8, 2), sign(9, "."), number(10, 3))
	wantLex(t, "1.1000000.3", number(0, 1), sign(1, "."), number(2, 1000000), sign(9, "."), number(10, 3))
	wantLex(t, "1000000.1.2.3", number(0, 1000000), sign(7, "."), version(8, "1.2.3"))
	wantForm(t, "1.1234567890123456789.1", 2)
	wantForm(t, "1.-0.1", 2)
}

// P6.1: texts with each escape, and with each byte that may stand as it is.
func TestTexts(t *testing.T) {
	wantLex(t, `""`, text(0, ""))
	wantLex(t, `"a"`, text(0, "a"))
	wantLex(t, `= "a b" "c"`, sign(0, "="), text(2, "a b"), text(8, "c"))
	wantLex(t, `"a""b"`, text(0, "a"), text(3, "b"))
	wantLex(t, `"\\" "\"" "\n" "\t"`, text(0, "\\"), text(5, "\""), text(10, "\n"), text(15, "\t"))
	wantLex(t, `"a\\n\\\"\n\tb\\"`, text(0, "a\\n\\\"\n\tb\\"))
	wantLex(t, `"\\""\""`, text(0, "\\"), text(4, "\""))
	wantLex(t, `"-- 'a let 1.2.3"a`, text(0, "-- 'a let 1.2.3"), lower(17, "a"))
	for c := range 256 {
		one := string([]byte{byte(c)})
		switch s := "= \"a" + one + "b\""; {
		case c == '"':
			wantForm(t, s, 6) // the second text does not end
		case c == '\\':
			wantForm(t, s, 2) // no text has \b
		case c >= 32 && c <= 126:
			wantLex(t, s, sign(0, "="), text(2, "a"+one+"b"))
		default:
			wantForm(t, s, 2)
		}
		says := map[byte]string{'\\': "\\", '"': "\"", 'n': "\n", 't': "\t"}
		if x, known := says[byte(c)]; known {
			wantLex(t, "= \"a\\"+one+"b\"", sign(0, "="), text(2, "a"+x+"b"))
		} else {
			wantForm(t, "= \"a\\"+one+"b\"", 2)
		}
	}
}

// P6.1: texts that don't end: the byte where they begin.
func TestTextsOpen(t *testing.T) {
	for _, s := range []string{`"`, `"a`, `"a b c`, `"\"`, `"a\"`, `"\`, `"a\`, `"\\\`, `"\\\"`, "\"a\n\"", "\"a\x7F\"", "\"a\r\"", "\"a\x00\"", "\"ä\"", "\"\xFF\"", "\"\n", "\"a -- b", "\"\t\""} {
		wantForm(t, s, 0)
		wantForm(t, "\"x\" "+s, 4)
		wantForm(t, "-- \"\n"+s, 5)
	}
}

// P6.1: a text says 1000 bytes at most, however many it is told by.
func TestTextsLong(t *testing.T) {
	for told, says := range map[string]string{"a": "a", " ": " ", `\\`: "\\", `\"`: "\"", `\n`: "\n", `\t`: "\t"} {
		s := strings.Repeat(told, maxText)
		wantLex(t, "= \""+s+"\"=", sign(0, "="), text(2, strings.Repeat(says, maxText)), sign(4+len(s), "="))
		wantLex(t, "\""+strings.Repeat(told, maxText-1)+"\"", text(0, strings.Repeat(says, maxText-1)))
		wantForm(t, "= \""+s+told+"\"", 2)
		wantForm(t, "\""+s+"a\"", 0)
		wantForm(t, "\"a"+s+"\"", 0)
		wantForm(t, "\""+s, 0)
		wantForm(t, "\""+strings.Repeat(told, 5000)+"\"", 0)
	}
}
