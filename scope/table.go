package scope

import (
	"touchstone/api"
	"touchstone/copied"
	"touchstone/term"
)

// key is a thing that terms name: of types TyCon, of constructors ExCon, of values ExVar; under a qualifier, or none.
type key struct {
	kind int
	pkg  string
	name string
}

// table is what a module's names mean.
type table struct {
	lines   map[string]api.Line // by qualifiers
	arities map[key]int         // of values 0
}

// note puts something into a map, where the first one counts.
func note[K comparable, V any](m map[K]V, k K, v V) {
	if _, there := m[k]; !there {
		m[k] = v
	}
}

func newTable(m api.Module, deps []api.Iface) *table {
	t := &table{map[string]api.Line{}, map[key]int{}}
	for _, name := range builtIn() {
		note(t.arities, key{api.TyCon, "", name}, 0)
	}
	t.types("", m.Types)
	for _, x := range m.Aliases {
		note(t.arities, key{api.TyCon, "", x.Name}, len(x.Params))
	}
	for _, x := range m.Lets {
		note(t.arities, key{api.ExVar, "", x.Name}, 0)
	}
	for n, x := range m.Imports {
		if _, there := t.lines[x.As]; there {
			continue
		}
		note(t.lines, x.As, lineOf(x))
		t.types(x.As, deps[n].Types)
		for _, v := range deps[n].Vals {
			note(t.arities, key{api.ExVar, x.As, v.Name}, 0)
		}
	}
	return t
}

func (t *table) types(pkg string, l []api.TypeDef) {
	for _, x := range l {
		note(t.arities, key{api.TyCon, pkg, x.Name}, len(x.Params))
		for _, c := range x.Cons {
			note(t.arities, key{api.ExCon, pkg, c.Name}, len(c.Args))
		}
	}
}

// named is what a term names: nothing, of those that bind names, or have none; nor of values that may be bound around them.
func named(x api.Term) (key, bool) {
	switch x.Kind {
	case api.PaCon:
		x.Kind = api.ExCon
		fallthrough
	case api.TyCon, api.ExCon, api.ExVar:
		return key{x.Kind, x.Pkg, x.Name}, x.Kind != api.ExVar || x.Pkg != ""
	}
	return key{}, false
}

func (t *table) isThere(k key) bool {
	_, there := t.arities[k]
	return there
}

func (t *table) missesName(m api.Module) bool {
	return hasTerm(m, t.isStrange) || hasStrangeVar(m) || t.hasStrangeValue(m) || t.hasStrangeExport(m)
}

func (t *table) isStrange(x api.Term) bool {
	k, names := named(x)
	return names && !t.isThere(k)
}

// hasStrangeValue tells whether a value is named that is neither bound around nor a let.
func (t *table) hasStrangeValue(m api.Module) bool {
	for _, x := range m.Lets {
		for _, name := range term.Free(x.Body) {
			if !t.isThere(key{api.ExVar, "", name}) {
				return true
			}
		}
	}
	return false
}

// hasStrangeExport tells whether something is exported that is none of the module's own.
func (t *table) hasStrangeExport(m api.Module) bool {
	types := map[string]struct{}{} // without aliases: these are for the module alone
	for _, x := range m.Types {
		note(types, x.Name, struct{}{})
	}
	for _, x := range m.Exports {
		_, there := types[x.Name]
		if x.Type && !there || !x.Type && !t.isThere(key{api.ExVar, "", x.Name}) {
			return true
		}
	}
	return false
}

func (t *table) missesArity(m api.Module) bool {
	return hasTerm(m, func(x api.Term) bool {
		k, names := named(x)
		return names && k.kind != api.ExVar && t.arities[k] != len(x.Kids)
	})
}

// resolved is a term whose qualifiers are lines' texts.
func (t *table) resolved(x api.Term) api.Term {
	if line, there := t.lines[x.Pkg]; there && x.Pkg != "" {
		x.Pkg = LineText(line)
	}
	return copied.Kids(x, t.resolved)
}
