package iface

import (
	"slices"
	"strings"

	"touchstone/api"
	"touchstone/lex"
	"touchstone/scheme"
	"touchstone/semver"
	"touchstone/term"
)

// lineOf is the line whose text that is, if it is right.
func lineOf(text string) (api.Line, bool) {
	pkg, major, _ := strings.Cut(text, "/")
	v, e := semver.Parse(major + ".0.0")
	if e != api.OK || !semver.IsPkg(pkg) {
		return api.Line{}, false
	}
	return api.Line{Pkg: pkg, Major: v.Major}, true
}

// table is how many Params each of an interface's types has.
type table map[string]int

// Right tells whether an interface is right.
func Right(i api.Iface) bool {
	t := table{}
	for _, x := range i.Types {
		t[x.Name] = len(x.Params)
	}
	names := func(x api.TypeDef) string { return x.Name }
	if !rise(i.Types, api.TokLower, names) || !t.hasRight(i.Types) || !rise(i.Vals, api.TokLower, func(v api.Val) string { return v.Name }) {
		return false
	}
	return !slices.ContainsFunc(i.Vals, func(v api.Val) bool { return !t.isRight(v.Type) || !term.Same(v.Type, scheme.Canon(v.Type)) })
}

// rise tells whether the names of all are such of a kind of tokens, each behind the one ahead.
func rise[T any](l []T, kind int, name func(T) string) bool {
	for i, x := range l {
		if !isToken(kind, name(x)) || i > 0 && name(x) <= name(l[i-1]) {
			return false
		}
	}
	return true
}

func isToken(kind int, text string) bool { return lex.Right(api.Token{Kind: kind, Text: text}) }

func (t table) hasRight(types []api.TypeDef) bool {
	met := map[string]struct{}{} // constructors, of all types
	count := 0
	for _, x := range types {
		if isBuiltIn(x.Name) || len(x.Params) > api.MaxType || !slices.Equal(x.Params, varNames(len(x.Params))) {
			return false
		}
		if len(x.Cons) == 0 || !rise(x.Cons, api.TokUpper, func(c api.Con) string { return c.Name }) {
			return false
		}
		for _, c := range x.Cons {
			met[c.Name] = struct{}{}
			if !t.hasRightArgs(c, x.Params) {
				return false
			}
		}
		count += len(x.Cons)
	}
	return len(met) == count
}

func (t table) hasRightArgs(c api.Con, params []string) bool {
	for _, arg := range c.Args {
		if !t.isRight(arg) {
			return false
		}
		for _, name := range term.Vars(arg) {
			if !slices.Contains(params, name) {
				return false
			}
		}
	}
	return true
}

func isBuiltIn(name string) bool { return name == "int" || name == "text" }

// isRight tells whether a type is right, where there are these.
func (t table) isRight(x api.Term) bool { return term.Size(x) <= api.MaxType && t.isType(x) }

func (t table) isType(x api.Term) bool {
	switch x.Kind {
	case api.TyVar:
		if !isToken(api.TokVar, x.Name) || x.Pkg != "" || len(x.Kids) > 0 {
			return false
		}
	case api.TyCon:
		if !isToken(api.TokLower, x.Name) || !t.isThere(x) {
			return false
		}
	case api.TyFun:
		if len(x.Kids) != 2 {
			return false
		}
		fallthrough
	case api.TyTuple:
		if len(x.Kids) == 1 || x.Pkg != "" || x.Name != "" {
			return false
		}
	default:
		return false
	}
	return x.N == 0 && !slices.ContainsFunc(x.Kids, func(k api.Term) bool { return !t.isType(k) })
}

// isThere tells whether a type of that name is there, with so many Params; of other lines that is not known.
func (t table) isThere(x api.Term) bool {
	if x.Pkg != "" {
		_, right := lineOf(x.Pkg)
		return right
	}
	params, own := t[x.Name]
	return (own || isBuiltIn(x.Name)) && len(x.Kids) == params
}
