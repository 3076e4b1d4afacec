package parse_test

import (
	"math/rand/v2"
	"strconv"
	"strings"

	"touchstone/api"
)

func pick[T any](d *rand.Rand, l ...T) T { return l[d.IntN(len(l))] }

func someOf(d *rand.Rand, n int, one func() api.Term) []api.Term {
	var l []api.Term
	for range n {
		l = append(l, one())
	}
	return l
}

func someType(d *rand.Rand, depth int) api.Term {
	one := func() api.Term { return someType(d, depth-1) }
	if depth <= 0 {
		return pick(d, tv("a"), tv("b1"), tc("int"), in("P", tc("t")), tt())
	}
	switch d.IntN(4) {
	case 0:
		return someType(d, 0)
	case 1:
		return in(pick(d, "", "P", "Q'"), tc(pick(d, "list", "_t"), someOf(d, d.IntN(4), one)...))
	case 2:
		return arrow(one(), one())
	}
	return tt(someOf(d, pick(d, 0, 2, 3), one)...)
}

func somePat(d *rand.Rand, depth int) api.Term {
	one := func() api.Term { return somePat(d, depth-1) }
	if depth <= 0 {
		return pick(d, pa(), pv("a"), pv("_b"), pn(d.IntN(100)-50), ps(pick(d, "", "a", "\n\"\\\t")), pc("Nil"), pt())
	}
	switch d.IntN(3) {
	case 0:
		return somePat(d, 0)
	case 1:
		return in(pick(d, "", "P"), pc(pick(d, "Cons", "A"), someOf(d, d.IntN(4), one)...))
	}
	return pt(someOf(d, pick(d, 0, 2, 3), one)...)
}

func someExpr(d *rand.Rand, depth int) api.Term {
	one := func() api.Term { return someExpr(d, depth-1) }
	name := pick(d, "a", "x", "_y", "f'")
	if depth <= 0 {
		return pick(d, ev(name), in("P", ev(name)), en(d.IntN(100)-50), es(pick(d, "", "a b", "\t\\")), ec("Nil"), in("Q", ec("A")), et())
	}
	switch d.IntN(10) {
	case 0:
		return someExpr(d, 0)
	case 1:
		return in(pick(d, "", "P"), ec("Cons", someOf(d, d.IntN(4), one)...))
	case 2:
		return et(someOf(d, pick(d, 0, 2, 3), one)...)
	case 3:
		return fun(name, one())
	case 4, 5:
		return apply(someOf(d, 2+d.IntN(3), one)...)
	case 6:
		t := pick(d, let(name, one(), one()), let(name, one(), one(), someType(d, 2)))
		t.N = d.IntN(2)
		return t
	case 7:
		l := []api.Term{one()}
		for range 1 + d.IntN(3) {
			l = append(l, somePat(d, 2), one())
		}
		return match(l...)
	}
	return ann(one(), someType(d, 2))
}

// someItem puts one item more into a module, and tells it.
func someItem(d *rand.Rand, m *api.Module) string {
	w := &writer{d}
	name, params := pick(d, "a", "t", "_x"), pick(d, nil, []string{"a"}, []string{"a", "b", "a"})
	var anns []api.Term
	ann := ""
	if d.IntN(2) == 0 {
		anns = []api.Term{someType(d, 2)}
		ann = ":" + w.tell(anns[0])
	}
	head := name
	if len(params) > 0 {
		head += "('" + strings.Join(params, w.blank()+", '") + ")"
	}
	switch d.IntN(6) {
	case 0:
		x := api.Import{As: pick(d, "P", "Q"), Pin: pin(pick(d, "a", "b2"), d.IntN(3), d.IntN(1000), d.IntN(10))}
		m.Imports = append(m.Imports, x)
		return w.words("import", x.As, "=", x.Pkg, "@", strconv.Itoa(x.Major)+"."+strconv.Itoa(x.Minor)+"."+strconv.Itoa(x.Patch), ";")
	case 1:
		x := api.TypeDef{Name: name, Params: params}
		var cons []string
		for range 1 + d.IntN(3) {
			c := api.Con{Name: pick(d, "A", "B"), Args: someOf(d, d.IntN(3), func() api.Term { return someType(d, 2) })}
			x.Cons = append(x.Cons, c)
			cons = append(cons, c.Name+w.held(c.Args))
		}
		m.Types = append(m.Types, x)
		return w.words("type", head, "=", strings.Join(cons, " |"+w.blank()), ";")
	case 2:
		x := api.Alias{Name: name, Params: params, Type: someType(d, 3)}
		m.Aliases = append(m.Aliases, x)
		return w.words("alias", head, "=", w.tell(x.Type), ";")
	case 3:
		x := api.Let{Name: name, Ann: anns, Body: someExpr(d, 3)}
		m.Lets = append(m.Lets, x)
		return w.words("let", name, ann, "=", w.tell(x.Body), ";")
	case 4:
		m.Exports = append(m.Exports, api.Export{Type: true, Name: name})
		return w.words("export", "type", name, ";")
	}
	m.Exports = append(m.Exports, api.Export{Name: name, Ann: anns})
	return w.words("export", name, ann, ";")
}

// writer tells terms, with blanks and parentheses as it likes.
type writer struct{ d *rand.Rand }

func (w *writer) blank() string { return pick(w.d, " ", " ", "\n", "\t ", " -- a ( \"\n") }

func (w *writer) words(l ...string) string {
	s := ""
	for _, x := range l {
		s += x + w.blank()
	}
	return s
}

func (w *writer) list(l []api.Term) string {
	var all []string
	for _, x := range l {
		all = append(all, w.tell(x))
	}
	return "(" + strings.Join(all, ","+w.blank()) + pick(w.d, "", " ") + ")"
}

func (w *writer) held(l []api.Term) string {
	if len(l) == 0 {
		return ""
	}
	return pick(w.d, "", " ") + w.list(l)
}

// tell is a term's text, now and then in parentheses that it does not need.
func (w *writer) tell(t api.Term) string {
	if w.d.IntN(8) == 0 {
		return "(" + w.tell(t) + ")"
	}
	return w.bare(t)
}

// tight is a term's text, in parentheses, unless it needs none whatever is beside it.
func (w *writer) tight(t api.Term, alone ...int) string {
	for _, kind := range alone {
		if t.Kind == kind && (kind != api.ExCon || len(t.Kids) > 0) {
			return w.tell(t)
		}
	}
	return "(" + w.tell(t) + ")"
}

func (w *writer) bare(t api.Term) string {
	name := t.Name
	if t.Pkg != "" {
		name = t.Pkg + pick(w.d, ".", " . ") + t.Name
	}
	switch t.Kind {
	case api.TyVar:
		return "'" + name
	case api.TyCon, api.PaCon, api.ExCon:
		return name + w.held(t.Kids)
	case api.PaAny:
		return "_"
	case api.PaVar, api.ExVar:
		return name
	case api.PaInt, api.ExInt:
		return strconv.Itoa(t.N)
	case api.PaText, api.ExText:
		return `"` + strings.NewReplacer("\\", `\\`, "\"", `\"`, "\n", `\n`, "\t", `\t`).Replace(name) + `"`
	case api.TyTuple, api.PaTuple, api.ExTuple:
		return w.list(t.Kids)
	case api.TyFun:
		return w.tight(t.Kids[0], api.TyVar, api.TyCon, api.TyTuple) + w.blank() + "->" + w.tell(t.Kids[1])
	case api.ExFun:
		return w.words("fun", name, "->", w.tell(t.Kids[0]))
	case api.ExApp:
		return w.tight(t.Kids[0], api.ExVar, api.ExInt, api.ExText, api.ExCon, api.ExTuple, api.ExAnn, api.ExApp) + w.blank() + w.tight(t.Kids[1], api.ExVar, api.ExInt, api.ExText, api.ExCon, api.ExTuple, api.ExAnn)
	case api.ExLet:
		ann := ""
		if len(t.Kids) > 2 {
			ann = ":" + w.tell(t.Kids[2])
		}
		return w.words("let", strings.Repeat("rec", t.N), name, ann, "=", w.tell(t.Kids[0]), "in", w.tell(t.Kids[1]))
	case api.ExMatch:
		s := w.words("match", w.tell(t.Kids[0]), "with")
		for i := 1; i < len(t.Kids); i += 2 {
			s += w.words(strings.Repeat("|", min(i-1, 1)), w.tell(t.Kids[i]), "->", w.tell(t.Kids[i+1]))
		}
		return s + "end"
	}
	return w.words("(", w.tell(t.Kids[0]), ":", w.tell(t.Kids[1]), ")")
}
