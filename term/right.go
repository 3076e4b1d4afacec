package term

import (
	"touchstone/api"
	"touchstone/lex"
)

// Of what a term tells itself (Pkg, Name and N) each of these asks that one part is right, and all else zero.

func isBare(t api.Term) bool { return t.Pkg == "" && t.Name == "" && t.N == 0 }

func isNumber(t api.Term) bool {
	return t.Pkg == "" && t.Name == "" && lex.Right(api.Token{Kind: api.TokInt, N: t.N})
}

// isNamed asks for a Name that a kind of tokens may tell.
func isNamed(t api.Term, kind int) bool { return t.Pkg == "" && isQualified(t, kind) }

func isQualified(t api.Term, kind int) bool {
	return t.N == 0 && isToken(kind, t.Name) && (t.Pkg == "" || isToken(api.TokUpper, t.Pkg))
}

func isToken(kind int, text string) bool { return lex.Right(api.Token{Kind: kind, Text: text}) }

// isOf asks for as many Kids as there are questions, each of which its Kid answers. It counts them first, so that no Kid is asked twice, where a term may have one number of them or another.
func isOf(kids []api.Term, is ...func(api.Term) bool) bool {
	if len(kids) != len(is) {
		return false
	}
	for i, k := range kids {
		if !is[i](k) {
			return false
		}
	}
	return true
}

func areAll(kids []api.Term, is func(api.Term) bool) bool {
	for _, k := range kids {
		if !is(k) {
			return false
		}
	}
	return true
}

func isTuple(t api.Term, is func(api.Term) bool) bool {
	return isBare(t) && len(t.Kids) != 1 && areAll(t.Kids, is)
}

func isLet(t api.Term) bool {
	if t.N == 1 {
		t.N = 0
	}
	return isNamed(t, api.TokLower) && (isOf(t.Kids, IsExpr, IsExpr) || isOf(t.Kids, IsExpr, IsExpr, IsType))
}

func isMatch(kids []api.Term) bool {
	if len(kids) < 3 || len(kids)%2 == 0 {
		return false
	}
	for i, k := range kids {
		is := IsExpr
		if isPatPlace(i) {
			is = IsPat
		}
		if !is(k) {
			return false
		}
	}
	return true
}

// isPatPlace tells whether a Kid of an ExMatch is a pattern.
func isPatPlace(i int) bool { return i%2 == 1 }
