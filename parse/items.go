package parse

import (
	"touchstone/api"
	"touchstone/semver"
)

func (r *reader) module() api.Module {
	var m api.Module
	for len(r.tokens) > 0 {
		r.item(&m)
		r.sign(";")
	}
	return m
}

// item reads an item, but its end.
func (r *reader) item(m *api.Module) {
	switch {
	case r.skipKey("import"):
		m.Imports = append(m.Imports, r.importItem())
	case r.skipKey("type"):
		m.Types = append(m.Types, r.typeItem())
	case r.skipKey("alias"):
		m.Aliases = append(m.Aliases, r.aliasItem())
	case r.skipKey("let"):
		m.Lets = append(m.Lets, r.letItem())
	case r.skipKey("export"):
		m.Exports = append(m.Exports, r.exportItem())
	default:
		panic(r.fault(api.ErrForm))
	}
}

func (r *reader) importItem() api.Import {
	as := r.take(api.TokUpper)
	r.sign("=")
	if !semver.IsPkg(r.next().Text) {
		panic(r.fault(api.ErrForm))
	}
	pkg := r.take(api.TokLower)
	r.sign("@")
	// A version's token is always a version's text.
	v, _ := semver.Parse(r.take(api.TokVersion))
	return api.Import{As: as, Pin: api.Pin{Pkg: pkg, Version: v}}
}

func (r *reader) typeItem() api.TypeDef {
	name, params := r.take(api.TokLower), r.params()
	r.sign("=")
	return api.TypeDef{Name: name, Params: params, Cons: several(r, "|", r.con)}
}

func (r *reader) con() api.Con {
	return api.Con{Name: r.take(api.TokUpper), Args: held(r, func() api.Term { return r.typ(top) })}
}

func (r *reader) params() []string {
	return held(r, func() string { return r.take(api.TokVar) })
}

func (r *reader) aliasItem() api.Alias {
	name, params := r.take(api.TokLower), r.params()
	r.sign("=")
	return api.Alias{Name: name, Params: params, Type: r.typ(top)}
}

func (r *reader) letItem() api.Let {
	name, ann := r.take(api.TokLower), r.annotation(top)
	r.sign("=")
	return api.Let{Name: name, Ann: ann, Body: r.expr(top)}
}

func (r *reader) exportItem() api.Export {
	if r.skipKey("type") {
		return api.Export{Type: true, Name: r.take(api.TokLower)}
	}
	return api.Export{Name: r.take(api.TokLower), Ann: r.annotation(top)}
}
