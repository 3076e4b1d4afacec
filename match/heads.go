package match

import (
	"strconv"

	"touchstone/api"
)

func isAny(p api.Term) bool { return p.Kind == api.PaAny || p.Kind == api.PaVar }

// isAlike tells whether a pattern that does not take any takes values of the same kind as another one that has so many parts.
func isAlike(p, other *api.Term, parts int) bool {
	if p.Kind != other.Kind {
		return false
	}
	switch p.Kind {
	case api.PaInt, api.PaText, api.PaCon:
		if p.N != other.N || p.Name != other.Name || p.Pkg != other.Pkg {
			return false
		}
		fallthrough
	case api.PaTuple:
		return len(p.Kids) == parts
	}
	return false
}

// takesSome tells whether a pattern takes a value: each one does.
func takesSome(p api.Term) bool {
	if !isAny(p) && !isAlike(&p, &p, len(p.Kids)) {
		return false
	}
	for _, k := range p.Kids {
		if !takesSome(k) {
			return false
		}
	}
	return true
}

// key is whose a constructor, or a type, is, and its name.
type key struct{ pkg, name string }

// table is types and their constructors.
type table struct {
	types map[key]key    // of constructors
	cons  map[key][]head // of types
}

// head is a pattern, as a row of patterns may begin: what it takes has so many parts, each of which any takes.
type head struct {
	api.Term
	parts []*api.Term
}

func newHead(p api.Term, parts int) head {
	p.Kids = nil
	h := head{p, make([]*api.Term, parts)}
	for i := range h.parts {
		h.parts[i] = &api.Term{Kind: api.PaAny}
	}
	return h
}

func newTable(cons []api.Cons) *table {
	t := &table{map[key]key{}, map[key][]head{}}
	met := map[[2]key]struct{}{} // types, and the names of their constructors
	for _, c := range cons {
		con, typ := key{c.Pkg, c.Name}, key{c.Pkg, c.Type}
		if _, there := t.types[con]; !there {
			t.types[con] = typ
		}
		if _, there := met[[2]key{typ, con}]; !there {
			met[[2]key{typ, con}] = struct{}{}
			t.cons[typ] = append(t.cons[typ], newHead(api.Term{Kind: api.PaCon, Pkg: c.Pkg, Name: c.Name}, len(c.Args)))
		}
	}
	return t
}

// heads are those by which rows are taken apart: together they take all values of the type of the rows' first patterns. None, if these all take any.
func (t *table) heads(rows []row) []head {
	for _, r := range rows {
		switch p := *r[0]; p.Kind {
		case api.PaTuple:
			return []head{newHead(p, len(p.Kids))}
		case api.PaCon:
			return t.constructors(rows, p)
		case api.PaInt, api.PaText:
			return literals(rows, p.Kind)
		}
	}
	return nil
}

// constructors are those of a constructor's type that stand ahead in a row, and one of the others, which are all alike then.
func (t *table) constructors(rows []row, p api.Term) []head {
	stand := map[key]struct{}{}
	for _, r := range rows {
		if r[0].Kind == api.PaCon {
			stand[key{r[0].Pkg, r[0].Name}] = struct{}{}
		}
	}
	typ, known := t.types[key{p.Pkg, p.Name}]
	if !known {
		return []head{newHead(p, len(p.Kids))}
	}
	var l []head
	other := false
	for _, h := range t.cons[typ] {
		_, stands := stand[key{h.Pkg, h.Name}]
		if stands || !other {
			l = append(l, h)
		}
		other = other || !stands
	}
	return l
}

// literals are all ints, or all texts, that stand ahead in a row, and one more.
func literals(rows []row, kind int) []head {
	type literal struct {
		n    int
		text string
	}
	met := map[literal]struct{}{}
	var l []head
	add := func(p api.Term) bool {
		x := literal{p.N, p.Name}
		if _, there := met[x]; there {
			return false
		}
		met[x] = struct{}{}
		l = append(l, newHead(p, 0))
		return true
	}
	for _, r := range rows {
		if r[0].Kind == kind {
			add(*r[0])
		}
	}
	for n := 0; ; n++ {
		more := api.Term{Kind: kind, N: n}
		if kind == api.PaText {
			more = api.Term{Kind: kind, Name: strconv.Itoa(n)}
		}
		if add(more) {
			return l
		}
	}
}
