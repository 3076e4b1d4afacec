package iface

import (
	"touchstone/api"
	"touchstone/codec"
	"touchstone/scheme"
	"touchstone/term"
)

// Encode is an interface's bytes.
func Encode(i api.Iface) (string, api.Errno) {
	if !Right(i) {
		return "", api.ErrArg
	}
	w := &writer{}
	write(w, i.Types, func(x api.TypeDef) {
		w.T(x.Name)
		w.U(uint64(len(x.Params)))
		write(w, x.Cons, func(c api.Con) {
			w.T(c.Name)
			write(w, c.Args, func(t api.Term) { w.typ(t, placesOf(x.Params)) })
		})
	})
	write(w, i.Vals, func(v api.Val) {
		w.T(v.Name)
		// In its canonical form a type's variables have the names by their order.
		w.typ(v.Type, placesOf(term.Vars(v.Type)))
	})
	return w.String(), api.OK
}

// writer writes interfaces.
type writer struct{ codec.Writer }

// write tells how many there are, and these.
func write[T any](w *writer, l []T, one func(T)) {
	w.U(uint64(len(l)))
	for _, x := range l {
		one(x)
	}
}

func placesOf(names []string) map[string]int {
	places := map[string]int{}
	for i, name := range names {
		places[name] = i
	}
	return places
}

func (w *writer) typ(t api.Term, places map[string]int) {
	w.U(uint64(t.Kind))
	kid := func(k api.Term) { w.typ(k, places) }
	switch t.Kind {
	case api.TyVar:
		w.U(uint64(places[t.Name]))
	case api.TyCon:
		w.T(t.Pkg, t.Name)
		fallthrough
	case api.TyTuple:
		write(w, t.Kids, kid)
	case api.TyFun:
		kid(t.Kids[0])
		kid(t.Kids[1])
	}
}

// Decode reads them.
func Decode(s string) (api.Iface, api.Errno) {
	r := &reader{Reader: codec.NewReader(s)}
	i := api.Iface{Types: read(r, r.typeDef), Vals: read(r, r.val)}
	if r.broken || !r.Done() || !Right(i) {
		return api.Iface{}, api.ErrBroken
	}
	return i, api.OK
}

// reader reads interfaces.
type reader struct {
	*codec.Reader
	left   int // how many terms more the type that is read may have
	broken bool
}

// read reads how many there are, and these, as long as nothing is broken: there may be fewer than told.
func read[T any](r *reader, one func() T) []T {
	var l []T
	for n := r.U(); n > 0 && !r.Bad() && !r.broken; n-- {
		l = append(l, one())
	}
	return l
}

// upTo reads a number that may not be too great.
func (r *reader) upTo(most int) int {
	n := r.U()
	if n > uint64(most) {
		r.broken = true
		return 0
	}
	return int(n)
}

func (r *reader) typeDef() api.TypeDef {
	name, params := r.T(), varNames(r.upTo(api.MaxType))
	return api.TypeDef{Name: name, Params: params, Cons: read(r, r.con)}
}

func (r *reader) con() api.Con { return api.Con{Name: r.T(), Args: read(r, r.whole)} }

func (r *reader) val() api.Val { return api.Val{Name: r.T(), Type: r.whole()} }

// whole reads a type of at most MaxType terms.
func (r *reader) whole() api.Term {
	r.left = api.MaxType
	return r.typ()
}

func (r *reader) typ() api.Term {
	if r.left--; r.left < 0 {
		r.broken = true
		return api.Term{}
	}
	t := api.Term{Kind: r.upTo(api.TyTuple)}
	switch t.Kind {
	case api.TyVar:
		t.Name = scheme.VarName(r.upTo(api.MaxType))
	case api.TyCon:
		t.Pkg, t.Name = r.T(), r.T()
		fallthrough
	case api.TyTuple:
		t.Kids = read(r, r.typ)
	case api.TyFun:
		t.Kids = []api.Term{r.typ(), r.typ()}
	default:
		r.broken = true
	}
	return t
}
