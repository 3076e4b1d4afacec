package print

import (
	"touchstone/api"
	"touchstone/lex"
	"touchstone/semver"
	"touchstone/term"
)

// Right tells whether a module is right.
func Right(m api.Module) bool {
	return areAll(m.Imports, isImport) && areAll(m.Types, isTypeDef) && areAll(m.Aliases, isAlias) && areAll(m.Lets, isLet) && areAll(m.Exports, isExport)
}

func areAll[T any](l []T, is func(T) bool) bool {
	for _, x := range l {
		if !is(x) {
			return false
		}
	}
	return true
}

func isToken(kind int, text string) bool { return lex.Right(api.Token{Kind: kind, Text: text}) }

func isLower(name string) bool { return isToken(api.TokLower, name) }
func isUpper(name string) bool { return isToken(api.TokUpper, name) }
func isVar(name string) bool   { return isToken(api.TokVar, name) }

func isImport(x api.Import) bool {
	// A keyword may be a package's name, but no source can import that.
	return isUpper(x.As) && semver.IsPkg(x.Pkg) && !lex.Keyword(x.Pkg) && semver.Right(x.Version)
}

func isTypeDef(x api.TypeDef) bool {
	return isLower(x.Name) && areAll(x.Params, isVar) && len(x.Cons) > 0 && areAll(x.Cons, isCon)
}

func isCon(x api.Con) bool { return isUpper(x.Name) && areAll(x.Args, term.IsType) }

func isAlias(x api.Alias) bool {
	return isLower(x.Name) && areAll(x.Params, isVar) && term.IsType(x.Type)
}

func isLet(x api.Let) bool { return isLower(x.Name) && isAnn(x.Ann) && term.IsExpr(x.Body) }

func isExport(x api.Export) bool {
	return isLower(x.Name) && isAnn(x.Ann) && !(x.Type && len(x.Ann) > 0)
}

func isAnn(l []api.Term) bool { return len(l) <= 1 && areAll(l, term.IsType) }
