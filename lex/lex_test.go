package lex_test

import (
	"strings"
	"testing"

	"touchstone/api"
	"touchstone/lex"
)

// P6.1, example 1: each token with the byte where it begins.
func TestLex(t *testing.T) {
	wantLex(t, "let x=-1 -- a", key(0, "let"), lower(4, "x"), sign(5, "="), number(6, -1))
	wantLex(t, "import P = list@1.20.3;", key(0, "import"), upper(7, "P"), sign(9, "="), lower(11, "list"), sign(15, "@"), version(16, "1.20.3"), sign(22, ";"))
	wantLex(t, "type t('a) = Nil | Cons('a, t('a));",
		key(0, "type"), lower(5, "t"), sign(6, "("), variable(7, "a"), sign(9, ")"), sign(11, "="), upper(13, "Nil"), sign(17, "|"), upper(19, "Cons"), sign(23, "("),
		variable(24, "a"), sign(26, ","), lower(28, "t"), sign(29, "("), variable(30, "a"), sign(32, ")"), sign(33, ")"), sign(34, ";"))
	wantLex(t, "fun x->match P.y with _->\"a b\"|Q.C(_)->0 end",
		key(0, "fun"), lower(4, "x"), sign(5, "->"), key(7, "match"), upper(13, "P"), sign(14, "."), lower(15, "y"), key(17, "with"), sign(22, "_"), sign(23, "->"), text(25, "a b"), sign(30, "|"),
		upper(31, "Q"), sign(32, "."), upper(33, "C"), sign(34, "("), sign(35, "_"), sign(36, ")"), sign(37, "->"), number(39, 0), key(41, "end"))
}

// P6.1: a source of nothing, of blanks and of remarks has no tokens.
func TestNothing(t *testing.T) {
	for _, s := range []string{"", " ", "\t", "\n", " \n\t \n", "--", "--\n", "-- a", "-- a\n", "--\n--", "-- a\n\n -- b\n", "---", "-->", "--\x00\xFF\r\"\\#\n", "-- -- --", "--\t--\n\t--"} {
		wantLex(t, s)
	}
}

// P6.1: a remark ends with a byte 10, or with the source; no other byte ends it.
func TestRemarks(t *testing.T) {
	wantLex(t, "a--b", lower(0, "a"))
	wantLex(t, "a--b\n", lower(0, "a"))
	wantLex(t, "a--b\nc", lower(0, "a"), lower(5, "c"))
	wantLex(t, "--a\nb--c\nd", lower(4, "b"), lower(9, "d"))
	wantLex(t, "--a\n--b\n\n c", lower(10, "c"))
	wantLex(t, "a -- b -- c \" ' # \\\nd", lower(0, "a"), lower(20, "d"))
	wantLex(t, "=--1", sign(0, "="))
	wantLex(t, "1--1\n-1", number(0, 1), number(5, -1))
	wantLex(t, "\"--\"--\"", text(0, "--"))
	for c := range 256 {
		s := "a --" + string([]byte{byte(c)}) + "b"
		if c == '\n' {
			wantLex(t, s, lower(0, "a"), lower(5, "b"))
		} else {
			wantLex(t, s, lower(0, "a"))
		}
	}
}

// P6.1: the bytes 32, 9 and 10 are blanks, no others; those that begin nothing are told by their place.
func TestEachByte(t *testing.T) {
	for c := range 256 {
		one := string([]byte{byte(c)})
		switch s := "a " + one + " b"; {
		case strings.Contains(" \t\n", one):
			wantLex(t, s, lower(0, "a"), lower(4, "b"))
		case strings.Contains(smallLetters, one):
			wantLex(t, s, lower(0, "a"), lower(2, one), lower(4, "b"))
		case strings.Contains(greatLetters, one):
			wantLex(t, s, lower(0, "a"), upper(2, one), lower(4, "b"))
		case strings.Contains("0123456789", one):
			wantLex(t, s, lower(0, "a"), number(2, c-'0'), lower(4, "b"))
		case strings.Contains("=|(),;:.@_", one):
			wantLex(t, s, lower(0, "a"), sign(2, one), lower(4, "b"))
		default:
			wantForm(t, s, 2)
			wantForm(t, one, 0)
			wantForm(t, "a\n-- b\n"+one, 7)
		}
	}
}

// P6.1: each sign; -> is ahead of -, and -- of both.
func TestSigns(t *testing.T) {
	for _, s := range signs() {
		wantLex(t, s, sign(0, s))
		wantLex(t, s+" "+s, sign(0, s), sign(len(s)+1, s))
		if s != "_" {
			wantLex(t, s+s+"a"+s, sign(0, s), sign(len(s), s), lower(2*len(s), "a"), sign(2*len(s)+1, s))
			wantLex(t, s+"1", sign(0, s), number(len(s), 1))
		}
	}
	wantLex(t, "=->", sign(0, "="), sign(1, "->"))
	wantLex(t, "->->", sign(0, "->"), sign(2, "->"))
	wantLex(t, "->-1", sign(0, "->"), number(2, -1))
	wantLex(t, "->--1", sign(0, "->"))
	wantLex(t, "-->1", []api.Token{}...)
	wantLex(t, "-1->-2", number(0, -1), sign(2, "->"), number(4, -2))
	wantLex(t, "1-1", number(0, 1), number(1, -1))
	wantLex(t, "x-1", lower(0, "x"), number(1, -1))
	for _, s := range []string{"-", "- 1", "- >", "-\n>", "-a", "-=", "-\"", "-'a", "-_", "-.1", "-(", "- --", "-#"} {
		wantForm(t, s, 0)
		wantForm(t, "a = "+s, 4)
	}
	wantForm(t, "->- ", 2)
	wantForm(t, ">", 0)
	wantForm(t, "->>", 2)
}

// P6.1: a _ is a sign alone, and begins a name with one more.
func TestUnderscore(t *testing.T) {
	wantLex(t, "_", sign(0, "_"))
	wantLex(t, "_ _", sign(0, "_"), sign(2, "_"))
	wantLex(t, "_ a", sign(0, "_"), lower(2, "a"))
	wantLex(t, "_\"a\"", sign(0, "_"), text(1, "a"))
	for c := range 256 {
		s := "_" + string([]byte{byte(c)})
		if strings.Contains(nameBytes, s[1:]) {
			wantLex(t, s, lower(0, s))
			wantLex(t, s+"_)", lower(0, s+"_"), sign(3, ")"))
		} else if got, _, e := lex.Lex(s); e == api.OK && got[0] != sign(0, "_") {
			t.Fatalf("Lex(%q): %v", s, got)
		}
	}
}

// P6.1: each name is as long as it can be, and has the chapter's bytes, no others.
func TestNames(t *testing.T) {
	wantLex(t, "a b' _c D E' 'f", lower(0, "a"), lower(2, "b'"), lower(5, "_c"), upper(8, "D"), upper(10, "E'"), variable(13, "f"))
	wantLex(t, "a.B.c", lower(0, "a"), sign(1, "."), upper(2, "B"), sign(3, "."), lower(4, "c"))
	wantLex(t, "aB0_'x\"t\"Y''", lower(0, "aB0_'x"), text(6, "t"), upper(9, "Y''"))
	wantLex(t, "1a2", number(0, 1), lower(1, "a2"))
	wantLex(t, "1.2.3a", version(0, "1.2.3"), lower(5, "a"))
	wantLex(t, "'a'b 'cD_1'e", variable(0, "a"), variable(2, "b"), variable(5, "cD_1"), variable(10, "e"))
	for c := range 256 {
		one := string([]byte{byte(c)})
		for _, head := range []string{"a", "Z"} {
			got, _, e := lex.Lex(head + one)
			whole := e == api.OK && len(got) == 1 && got[0].Text == head+one
			if whole != strings.Contains(nameBytes, one) {
				t.Fatalf("Lex(%q): %v, %v", head+one, got, e)
			}
		}
		got, _, e := lex.Lex("'a" + one)
		whole := e == api.OK && len(got) == 1 && got[0] == variable(0, "a"+one)
		if whole != (c != '\'' && strings.Contains(nameBytes, one)) {
			t.Fatalf("Lex(%q): %v, %v", "'a"+one, got, e)
		}
		if small := c >= 'a' && c <= 'z'; small {
			wantLex(t, "'"+one, variable(0, one))
		} else {
			wantForm(t, "'"+one, 0)
			wantForm(t, "= '"+one+"a", 2)
		}
	}
	wantForm(t, "'", 0)
	wantForm(t, "a = '", 4)
	wantForm(t, "'a'", 2)
}

// P6.1: names of MaxIdent bytes, and of one more; of a variable the ' ahead counts, too.
func TestNamesLong(t *testing.T) {
	for _, rest := range []string{"a", "Z", "0", "_", "'"} {
		s := strings.Repeat(rest, 29)
		wantLex(t, "= x"+s+";", sign(0, "="), lower(2, "x"+s), sign(32, ";"))
		wantLex(t, "= X"+s+";", sign(0, "="), upper(2, "X"+s), sign(32, ";"))
		wantLex(t, "= _"+s+";", sign(0, "="), lower(2, "_"+s), sign(32, ";"))
		wantForm(t, "= x"+s+rest+";", 2)
		wantForm(t, "= X"+s+rest+";", 2)
		wantForm(t, "= _"+s+rest+";", 2)
		wantForm(t, "let"+s, 0)
		if rest != "'" {
			name := "x" + s[1:]
			wantLex(t, "= '"+name+";", sign(0, "="), variable(2, name), sign(32, ";"))
			wantLex(t, "'"+name+"'"+name, variable(0, name), variable(30, name))
			wantForm(t, "= '"+name+rest+";", 2)
			wantForm(t, "'"+name+"'"+name+rest, 30)
			wantForm(t, "'"+name+rest+"'"+name, 0)
		}
	}
	wantForm(t, "'a '"+strings.Repeat("a", 30), 3)
	for _, n := range []int{31, 40, 100, 1000, 19000} {
		wantForm(t, strings.Repeat("a", n), 0)
		wantForm(t, "A "+strings.Repeat("A", n), 2)
		wantForm(t, "'a '"+strings.Repeat("a", n), 3)
		wantForm(t, "_ "+strings.Repeat("_", n), 2)
	}
}

// P6.1: each keyword is one, and with a byte more it is a name.
func TestKeywords(t *testing.T) {
	for _, s := range keywords() {
		wantLex(t, s, key(0, s))
		wantLex(t, "("+s+")", sign(0, "("), key(1, s), sign(len(s)+1, ")"))
		wantLex(t, "'"+s, variable(0, s))
		wantLex(t, "\""+s+"\"", text(0, s))
		wantLex(t, "_"+s, lower(0, "_"+s))
		wantLex(t, strings.ToUpper(s[:1])+s[1:], upper(0, strings.ToUpper(s[:1])+s[1:]))
		for _, c := range nameBytes {
			wantLex(t, s+string(c), lower(0, s+string(c)))
		}
		wantLex(t, "a"+s, lower(0, "a"+s))
		wantLex(t, s+"."+s, key(0, s), sign(len(s), "."), key(len(s)+1, s))
	}
	for _, s := range []string{"i", "impor", "typ", "le", "re", "i", "fu", "matc", "wit", "en", "expor", "int", "text", "of", "and", "module", "ending"} {
		wantLex(t, s, lower(0, s))
	}
}

// P6.1: of several faults the first one from the front is told, whatever stands behind.
func TestFirstFault(t *testing.T) {
	long := strings.Repeat("a", 31)
	wantForm(t, "a # \\", 2)
	wantForm(t, "a \\ #", 2)
	wantForm(t, "a \"b # c", 2)
	wantForm(t, "# \"b", 0)
	wantForm(t, long+" #", 0)
	wantForm(t, "# "+long, 0)
	wantForm(t, "a -- #\n \r", 8)
	wantForm(t, "1234567890123456789 \"", 0)
	wantForm(t, "\" 1234567890123456789", 0)
	wantForm(t, "let x = 1;\n\tlet y = ?;", 20)
}

// P6.1: a source of MaxSource bytes, and one more, which is told ahead of all else.
func TestSourceLimit(t *testing.T) {
	most := api.MaxSource
	wantLex(t, strings.Repeat(" ", most))
	wantFault(t, strings.Repeat(" ", most+1), 0, api.ErrLimit)
	wantLex(t, "--"+strings.Repeat("a", most-2))
	wantFault(t, "--"+strings.Repeat("a", most-1), 0, api.ErrLimit)
	wantLex(t, strings.Repeat(" ", most-1)+"a", lower(most-1, "a"))
	wantFault(t, strings.Repeat(" ", most)+"a", 0, api.ErrLimit)
	wantForm(t, strings.Repeat(" ", most-1)+"#", most-1)
	wantFault(t, "#"+strings.Repeat(" ", most), 0, api.ErrLimit)
	wantFault(t, "a "+strings.Repeat("#", most-1), 0, api.ErrLimit)
	wantFault(t, strings.Repeat("=", most), api.MaxTokens, api.ErrLimit)
	wantFault(t, strings.Repeat("=", most+1), 0, api.ErrLimit)
	wantFault(t, strings.Repeat("a ", 1<<20), 0, api.ErrLimit)
}

// P6.1: MaxTokens tokens, and one more: its byte; what stands behind that, or is no token, is another thing.
func TestTokenLimit(t *testing.T) {
	most := api.MaxTokens
	full := strings.Repeat("= ", most)
	got, at, e := lex.Lex(full)
	if len(got) != most || got[most-1] != sign(2*most-2, "=") || at != 0 || e != api.OK {
		t.Fatalf("%d tokens, %d, %v", len(got), at, e)
	}
	for _, s := range []string{" ", "\n\t", "-- a", "-- a\n--"} {
		if got, at, e := lex.Lex(full + s); len(got) != most || at != 0 || e != api.OK {
			t.Fatalf("%q behind all: %d tokens, %d, %v", s, len(got), at, e)
		}
	}
	for _, s := range []string{"=", "a", "_", "\"a\"", "1.2.3", "-1", "let", "'a", "->", "= #", "= \"", "a b c d", "(" + strings.Repeat("a", 31)} {
		wantFault(t, full+s, 2*most, api.ErrLimit)
		wantFault(t, full+"--\n "+s, 2*most+4, api.ErrLimit)
	}
	for _, s := range []string{"#", "\"", "-", "'", "'A", "-0", strings.Repeat("a", 31), "1234567890123456789", "\r"} {
		wantForm(t, full+s, 2*most)
		wantForm(t, full[:100]+s+" "+full, 100)
		wantForm(t, full[:2*most-2]+s, 2*most-2)
	}
}

// P6.1: texts of some letters that are short, all of them, held against the second telling.
func TestTwin(t *testing.T) {
	for letters, n := range map[string]int{"aA_'1->.\"\\n\n =": 4, "-> \n1a": 6, "1.- a": 7, "\"\\nta #": 6, "'_aA": 7} {
		right := 0
		l := texts(letters, n)
		for _, s := range l {
			wantTwin(t, s)
			if _, _, e := lex.Lex(s); e == api.OK {
				right++
			}
		}
		if right < 50 || right == len(l) {
			t.Fatalf("%q: %d of %d are right", letters, right, len(l))
		}
	}
}

// Rules 3 and 6: what is handed out is the caller's own, and the same each time.
func TestOwn(t *testing.T) {
	const s = "let x = \"a\\nb\" 'c D 1.2.3"
	l, _, _ := lex.Lex(s)
	for i := range l {
		l[i] = number(i, i)
	}
	wantLex(t, s, key(0, "let"), lower(4, "x"), sign(6, "="), text(8, "a\nb"), variable(15, "c"), upper(18, "D"), version(20, "1.2.3"))
	given := []api.Token{lower(7, "a"), number(8, -1)}
	wantTell(t, "a -1", given...)
	if given[0] != lower(7, "a") || given[1] != number(8, -1) {
		t.Fatalf("%v", given)
	}
}
