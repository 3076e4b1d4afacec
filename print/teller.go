package print

import (
	"strings"

	"touchstone/api"
	"touchstone/lex"
	"touchstone/semver"
)

// teller builds a text.
type teller struct{ strings.Builder }

func (w *teller) add(l ...string) {
	for _, s := range l {
		w.WriteString(s)
	}
}

// each tells all of a list, with a text between.
func each[T any](w *teller, between string, l []T, tell func(T)) {
	for i, x := range l {
		if i > 0 {
			w.add(between)
		}
		tell(x)
	}
}

// held tells what stands in parentheses, as many as there are.
func held[T any](w *teller, l []T, tell func(T)) {
	w.add("(")
	each(w, ", ", l, tell)
	w.add(")")
}

func (w *teller) token(t api.Token) {
	s, _ := lex.Tell(t)
	w.add(s)
}

func (w *teller) variable(name string) { w.token(api.Token{Kind: api.TokVar, Text: name}) }

// term tells a type, a pattern or an expression.
func (w *teller) term(t api.Term) {
	switch t.Kind {
	case api.TyVar:
		w.variable(t.Name)
	case api.PaAny:
		w.add("_")
	case api.PaInt, api.ExInt:
		w.token(api.Token{Kind: api.TokInt, N: t.N})
	case api.PaText, api.ExText:
		w.token(api.Token{Kind: api.TokText, Text: t.Name})
	case api.PaVar, api.ExVar, api.TyCon, api.PaCon, api.ExCon:
		if t.Pkg != "" {
			w.add(t.Pkg, ".")
		}
		w.add(t.Name)
		if len(t.Kids) == 0 {
			return
		}
		fallthrough
	case api.TyTuple, api.PaTuple, api.ExTuple:
		held(w, t.Kids, w.term)
	default:
		w.compound(t)
	}
}

// compound tells a term of such as stand beside one another.
func (w *teller) compound(t api.Term) {
	switch t.Kind {
	case api.TyFun:
		w.within(t.Kids[0], t.Kids[0].Kind == api.TyFun)
		w.add(" -> ")
		w.term(t.Kids[1])
	case api.ExFun:
		w.add("fun ", t.Name, " -> ")
		w.term(t.Kids[0])
	case api.ExApp:
		w.within(t.Kids[0], isOpen(t.Kids[0]))
		w.add(" ")
		w.within(t.Kids[1], isOpen(t.Kids[1]) || t.Kids[1].Kind == api.ExApp)
	case api.ExLet:
		w.let(t)
	case api.ExMatch:
		w.match(t)
	case api.ExAnn:
		w.add("(")
		w.term(t.Kids[0])
		w.annotation(t.Kids[1:])
		w.add(")")
	}
}

// within tells a term, in parentheses, where it needs some.
func (w *teller) within(t api.Term, needs bool) {
	if needs {
		held(w, []api.Term{t}, w.term)
		return
	}
	w.term(t)
}

// isOpen tells whether a term stands in parentheses on both sides of an application.
func isOpen(t api.Term) bool {
	switch t.Kind {
	case api.ExCon:
		return len(t.Kids) == 0
	case api.ExFun, api.ExLet, api.ExMatch:
		return true
	}
	return false
}

func (w *teller) let(t api.Term) {
	w.add("let ")
	if t.N == 1 {
		w.add("rec ")
	}
	w.add(t.Name)
	w.annotation(t.Kids[2:])
	w.add(" = ")
	w.term(t.Kids[0])
	w.add(" in ")
	w.term(t.Kids[1])
}

func (w *teller) match(t api.Term) {
	w.add("match ")
	w.term(t.Kids[0])
	between := " with "
	for i := 1; i < len(t.Kids); i += 2 {
		w.add(between)
		w.term(t.Kids[i])
		w.add(" -> ")
		w.term(t.Kids[i+1])
		between = " | "
	}
	w.add(" end")
}

// annotation tells a type behind a name, if there is one.
func (w *teller) annotation(l []api.Term) {
	for _, t := range l {
		w.add(" : ")
		w.term(t)
	}
}

const end = ";\n"

func (w *teller) importItem(x api.Import) {
	w.add("import ", x.As, " = ", x.Pkg, "@", semver.Print(x.Version), end)
}

// head tells what stands ahead of a type's right side.
func (w *teller) head(word, name string, params []string) {
	w.add(word, " ", name)
	if len(params) > 0 {
		held(w, params, w.variable)
	}
	w.add(" = ")
}

func (w *teller) typeItem(x api.TypeDef) {
	w.head("type", x.Name, x.Params)
	each(w, " | ", x.Cons, w.con)
	w.add(end)
}

func (w *teller) con(x api.Con) {
	w.add(x.Name)
	if len(x.Args) > 0 {
		held(w, x.Args, w.term)
	}
}

func (w *teller) aliasItem(x api.Alias) {
	w.head("alias", x.Name, x.Params)
	w.term(x.Type)
	w.add(end)
}

func (w *teller) letItem(x api.Let) {
	w.add("let ", x.Name)
	w.annotation(x.Ann)
	w.add(" = ")
	w.term(x.Body)
	w.add(end)
}

func (w *teller) exportItem(x api.Export) {
	w.add("export ")
	if x.Type {
		w.add("type ")
	}
	w.add(x.Name)
	w.annotation(x.Ann)
	w.add(end)
}
