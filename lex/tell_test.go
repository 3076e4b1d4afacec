package lex_test

import (
	"math"
	"strings"
	"testing"

	"touchstone/api"
	"touchstone/lex"
)

// P6.2: tokens are told in one way, a blank between.
func TestTell(t *testing.T) {
	wantTell(t, "")
	wantTell(t, "a", lower(0, "a"))
	wantTell(t, "let x = -1", key(0, "let"), lower(0, "x"), sign(0, "="), number(0, -1))
	wantTell(t, "let x = -1", key(9, "let"), lower(-5, "x"), sign(1<<40, "="), number(math.MinInt, -1))
	wantTell(t, "import P = list @ 1.2.3 ;", key(0, "import"), upper(0, "P"), sign(0, "="), lower(0, "list"), sign(0, "@"), version(0, "1.2.3"), sign(0, ";"))
	wantTell(t, "'a -> 'b", variable(0, "a"), sign(0, "->"), variable(0, "b"))
	wantTell(t, "_ _ a _'", sign(0, "_"), sign(0, "_"), lower(0, "a"), lower(0, "_'"))
	wantTell(t, `"" "a b" "\\\"\n\t"`, text(0, ""), text(0, "a b"), text(0, "\\\"\n\t"))
	wantTell(t, `0 7 -7 999999999999999999 -999999999999999999`, number(0, 0), number(0, 7), number(0, -7), number(0, mostInt), number(0, -mostInt))
	for c := 32; c <= 126; c++ {
		told := string([]byte{byte(c)})
		if told == "\"" || told == "\\" {
			told = "\\" + told
		}
		wantTell(t, "\"x"+told+"\"", text(0, "x"+string([]byte{byte(c)})))
	}
}

// P6.2: one token that is not right, at any place, and nothing is told.
func TestTellWrong(t *testing.T) {
	for _, x := range []api.Token{{}, lower(0, "A"), {Kind: 9, Text: "a"}, number(0, mostInt+1), text(0, "\x7F")} {
		for _, l := range [][]api.Token{{x}, {x, lower(0, "a")}, {lower(0, "a"), x}, {lower(0, "a"), x, lower(0, "b")}, {x, x}} {
			if told, e := lex.Tell(l...); told != "" || e != api.ErrArg {
				t.Fatalf("Tell(%v): %q, %v", l, told, e)
			}
		}
	}
}

// P6.2: names of each kind, right and wrong, where each other kind may stand, too.
func TestRightNames(t *testing.T) {
	long := strings.Repeat("a", 29)
	for _, s := range []string{"a", "z", "ab", "a'", "a_", "aA", "a0", "_a", "__", "_0", "_'", "_A", "lets", "le", "a" + long, "_" + long, "i", "int", "text"} {
		wantRight(t, lower(0, s))
		wantWrong(t, upper(0, s), key(0, s), sign(0, s), version(0, s))
	}
	for _, s := range []string{"A", "Z", "Ab", "A'", "A_", "AA", "A0", "Let", "A" + long} {
		wantRight(t, upper(0, s))
		wantWrong(t, lower(0, s), variable(0, s), key(0, s), sign(0, s), version(0, s))
	}
	for _, s := range []string{"a", "z", "ab", "a_", "aA", "a0", "let", "type", long} {
		wantRight(t, variable(0, s))
		wantWrong(t, upper(0, s), sign(0, s), version(0, s))
	}
	for _, s := range []string{"", " ", "a ", " a", "a b", "a\n", "a.b", "a-", "0", "0a", "'a", "'", "''", "\"a\"", "a\x00", "ä", "aä", "a\xFF", "-- a", "a--", "-1", "#", "\x00", long + "aa", "_" + long + "a"} {
		wantWrong(t, lower(0, s), upper(0, s), variable(0, s), key(0, s), sign(0, s), version(0, s))
	}
	for _, s := range []string{"A ", " A", "A B", "A\n", "A.B", "A-", "'A", "Aä", "A" + long + "a", "A\x00"} {
		wantWrong(t, lower(0, s), upper(0, s), variable(0, s), key(0, s), sign(0, s), version(0, s))
	}
	wantWrong(t, variable(0, "_"), variable(0, "_a"), variable(0, "a'"), variable(0, "a'b"), variable(0, "a"+long), variable(0, "a"+long+"a"), lower(0, "_"))
}

// P6.2: each keyword is a right one, and no name; each sign is a sign alone.
func TestRightKeysAndSigns(t *testing.T) {
	for _, s := range keywords() {
		wantRight(t, key(0, s), variable(0, s), text(0, s))
		wantWrong(t, lower(0, s), upper(0, s), sign(0, s), version(0, s))
		wantWrong(t, key(0, s+" "), key(0, s+"a"), key(0, strings.ToUpper(s)), key(0, s[1:]), key(0, s[:len(s)-1]))
		wantRight(t, lower(0, s+"'"), lower(0, "_"+s))
	}
	for _, s := range signs() {
		wantRight(t, sign(0, s), text(0, s))
		wantWrong(t, lower(0, s), upper(0, s), variable(0, s), key(0, s), version(0, s))
		wantWrong(t, sign(0, s+" "), sign(0, " "+s), sign(0, s+s), sign(0, s+"="))
	}
	for c := range 256 {
		if s := string([]byte{byte(c)}); strings.Contains("=|(),;:.@_", s) {
			wantRight(t, sign(0, s))
		} else {
			wantWrong(t, sign(0, s))
		}
	}
	wantWrong(t, sign(0, ""), sign(0, "-"), sign(0, ">"), sign(0, "--"), sign(0, "=>"), sign(0, "<-"), sign(0, "->-"), sign(0, "()"), key(0, ""), key(0, "let rec"))
}

// P6.2: ints of eighteen digits at most.
func TestRightInts(t *testing.T) {
	for _, n := range []int{0, 1, -1, 9, 10, -10, mostInt, -mostInt, mostInt - 1} {
		wantRight(t, number(0, n))
	}
	for _, n := range []int{mostInt + 1, -mostInt - 1, mostInt + 2, math.MaxInt, math.MinInt, math.MaxInt - 1, math.MinInt + 1} {
		wantWrong(t, number(0, n))
	}
	wantWrong(t, api.Token{Kind: api.TokInt, Text: "1", N: 1}, api.Token{Kind: api.TokInt, Text: "1"}, api.Token{Kind: api.TokInt, Text: " "})
}

// P6.2: texts of 1000 bytes at most, of those that one may say.
func TestRightTexts(t *testing.T) {
	for c := range 256 {
		x := text(0, "a"+string([]byte{byte(c)}))
		if c >= 32 && c <= 126 || c == '\n' || c == '\t' {
			wantRight(t, x)
		} else {
			wantWrong(t, x)
		}
	}
	for _, s := range []string{"a", "\"", "\\", "\n", "\t"} {
		wantRight(t, text(0, strings.Repeat(s, maxText)))
		wantWrong(t, text(0, strings.Repeat(s, maxText+1)), text(0, strings.Repeat(s, 100000)))
	}
	wantRight(t, text(0, ""), text(0, "\" \""), text(0, "-- a"), text(0, "\\n"))
	wantWrong(t, text(0, "ä"), text(0, "\r"), text(0, "a\x00b"))
}

// P6.2: versions' texts.
func TestRightVersions(t *testing.T) {
	wantRight(t, version(0, "0.0.0"), version(0, "1.2.3"), version(0, "999999.999999.999999"))
	for _, s := range []string{"", "1", "1.2", "1.2.", "1.2.3.", "1.2.3.4", "01.2.3", "1.02.3", "1.2.03", "1000000.0.0", "0.1000000.0", "0.0.1000000", "-1.2.3", "1.2.3 ", " 1.2.3", "1.2.3\n", "1.2.x", "v1.2.3", "a@1.2.3", "1.2.3-- a"} {
		wantWrong(t, version(0, s))
	}
}

// P6.2: of each kind no other field may be told, and its At may be anything; other kinds are none.
func TestRightFields(t *testing.T) {
	l := []api.Token{lower(0, "a"), upper(0, "A"), variable(0, "a"), number(0, 5), text(0, "a"), version(0, "1.2.3"), key(0, "let"), sign(0, "=")}
	for _, x := range l {
		wantRight(t, x)
		for _, at := range []int{1, -1, 5, math.MaxInt, math.MinInt} {
			x.At = at
			wantRight(t, x)
		}
		for _, kind := range []int{0, -1, 9, 10, 100, math.MinInt, math.MaxInt, api.TyVar + 10, -x.Kind} {
			y := x
			y.Kind = kind
			wantWrong(t, y)
		}
		if x.Kind == api.TokInt {
			x.Text = "5"
			wantWrong(t, x)
			continue
		}
		for _, n := range []int{1, -1, math.MaxInt, math.MinInt} {
			x.N = n
			wantWrong(t, x)
		}
	}
	wantWrong(t, api.Token{}, api.Token{At: 3}, api.Token{N: 1}, api.Token{Text: "a"})
}

// P6.2: the keywords, and no others.
func TestKeyword(t *testing.T) {
	for _, s := range keywords() {
		if !lex.Keyword(s) {
			t.Errorf("%q is none", s)
		}
		for _, x := range []string{s + " ", " " + s, s + "s", s[1:], s[:len(s)-1], strings.ToUpper(s), strings.ToUpper(s[:1]) + s[1:], s + s, s + "\x00", "_" + s} {
			if lex.Keyword(x) {
				t.Errorf("%q is one", x)
			}
		}
	}
	for _, s := range []string{"", "a", "x", "int", "text", "=", "->", "_", "if", "then", "else", "and", "of", "module", "open", "val", "Let"} {
		if lex.Keyword(s) {
			t.Errorf("%q is one", s)
		}
	}
}
