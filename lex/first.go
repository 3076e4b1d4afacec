package lex

import (
	"strconv"
	"strings"

	"touchstone/api"
	"touchstone/semver"
)

const (
	mark       = "'" // stands ahead of a variable's name
	minus      = "-"
	arrow      = "->"
	maxDigits  = 18                          // of an int
	maxVersion = len("999999.999999.999999") // bytes of a version's text
)

// first is the token at the beginning of a text, and how many bytes it has; 0, if none begins there, or one that is too long, or does not end.
func first(s string) (api.Token, int) {
	if s == "" {
		return api.Token{}, 0
	}
	switch c := s[0]; {
	case isSmall(c), c == '_' && count(s, isNameByte) > 1:
		return firstName(s, api.TokLower)
	case isGreat(c):
		return firstName(s, api.TokUpper)
	case c == mark[0]:
		return firstVar(s)
	case c == '"':
		return firstText(s)
	case isDigit(c), c == minus[0] && !strings.HasPrefix(s, arrow):
		return firstNumber(s)
	}
	return firstSign(s)
}

func firstName(s string, kind int) (api.Token, int) {
	n := count(s, isNameByte)
	if n > api.MaxIdent {
		return api.Token{}, 0
	}
	if Keyword(s[:n]) {
		kind = api.TokKey
	}
	return api.Token{Kind: kind, Text: strings.Clone(s[:n])}, n
}

func firstVar(s string) (api.Token, int) {
	name := strings.TrimPrefix(s, mark)
	name = name[:count(name, func(c byte) bool { return isNameByte(c) && c != mark[0] })]
	// As of other names, all of the token counts, with the mark that its Text leaves out.
	n := len(mark) + len(name)
	if name == "" || n > api.MaxIdent || !isSmall(name[0]) {
		return api.Token{}, 0
	}
	return api.Token{Kind: api.TokVar, Text: strings.Clone(name)}, n
}

func firstNumber(s string) (api.Token, int) {
	if n := versionBytes(s); n > 0 {
		return api.Token{Kind: api.TokVersion, Text: strings.Clone(s[:n])}, n
	}
	n := intBytes(s)
	if n == 0 {
		return api.Token{}, 0
	}
	// So few digits always have a number.
	number, _ := strconv.Atoi(s[:n])
	return api.Token{Kind: api.TokInt, N: number}, n
}

// versionBytes is how long the longest version's text at the beginning is.
func versionBytes(s string) int {
	for n := min(len(s), maxVersion); n > 0; n-- {
		if _, e := semver.Parse(s[:n]); e == api.OK {
			return n
		}
	}
	return 0
}

// intBytes is how long the int at the beginning is.
func intBytes(s string) int {
	digits := strings.TrimPrefix(s, minus)
	sign := len(s) - len(digits)
	n := count(digits, isDigit)
	// A 0 ends an int, as it stands ahead of no other digits: behind it another one begins.
	if n > 0 && digits[0] == '0' {
		n = 1
	}
	if n == 0 || n > maxDigits || s[:sign+n] == minus+"0" {
		return 0
	}
	return sign + n
}

func firstSign(s string) (api.Token, int) {
	n := 1
	switch s[0] {
	case arrow[0]: // with all of it behind, as a number may begin elsewhere
		n = len(arrow)
		fallthrough
	case '=', '|', '(', ')', ',', ';', ':', '.', '@', '_':
		return api.Token{Kind: api.TokSign, Text: strings.Clone(s[:n])}, n
	}
	return api.Token{}, 0
}

func isBlank(c byte) bool { return c == ' ' || c == '\t' || c == '\n' }

func isSmall(c byte) bool { return c >= 'a' && c <= 'z' }

func isGreat(c byte) bool { return c >= 'A' && c <= 'Z' }

func isDigit(c byte) bool { return c >= '0' && c <= '9' }

func isNameByte(c byte) bool {
	return isSmall(c) || isGreat(c) || isDigit(c) || c == '_' || c == mark[0]
}
