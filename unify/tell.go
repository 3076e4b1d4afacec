package unify

import (
	"strconv"

	"touchstone/api"
)

// tell tells a type as a term, unless it has too many; as what it tells a variable is asked.
func (s *Store) tell(id int, variable func(id int) api.Term) (api.Term, bool) {
	left := api.MaxType
	var told func(id int) api.Term
	told = func(id int) api.Term {
		left--
		id = s.find(id)
		n := &s.types[id]
		switch n.kind {
		case api.TyVar:
			return variable(id)
		case api.TyRigid:
			return api.Term{Kind: api.TyRigid, Name: "r" + strconv.Itoa(id)}
		}
		t := api.Term{Kind: n.kind, Pkg: n.pkg, Name: n.name}
		for _, k := range n.kids {
			if left <= 0 {
				left = -1
				break
			}
			t.Kids = append(t.Kids, told(k))
		}
		return t
	}
	t := told(id)
	if left < 0 {
		return api.Term{}, false
	}
	return t, true
}

// varName is the i-th variable's.
func varName(i int) string {
	name := string(rune('a' + i%26))
	if i < 26 {
		return name
	}
	return name + strconv.Itoa(i/26)
}
