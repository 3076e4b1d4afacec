package expand

import (
	"maps"
	"slices"

	"touchstone/api"
	"touchstone/order"
)

// How far an alias is done.
const (
	told    = iota // nothing is known but what it tells
	weighed        // how much it is
	built          // what it is
)

// alias is one that counts, and what comes of its type.
type alias struct {
	api.Alias
	state int
	size  size
	shape *shape
}

// table is all aliases that count.
type table struct {
	aliases map[string]*alias
	names   []string // in order
}

// named is the alias that a term names, of a type's own; else nil.
func (t *table) named(x api.Term) *alias {
	if x.Kind != api.TyCon || x.Pkg != "" {
		return nil
	}
	return t.aliases[x.Name]
}

func newTable(l []api.Alias) (*table, api.Errno) {
	t := &table{aliases: map[string]*alias{}}
	places := map[string]int{}
	var counted []*alias
	for _, x := range l {
		if t.aliases[x.Name] == nil {
			places[x.Name] = len(counted)
			counted = append(counted, &alias{Alias: x})
			t.aliases[x.Name] = counted[len(counted)-1]
		}
	}
	needs := make([][]int, len(counted))
	for i, a := range counted {
		met := map[int]struct{}{}
		var walk func(x api.Term)
		walk = func(x api.Term) {
			if t.named(x) != nil {
				met[places[x.Name]] = struct{}{}
			}
			for _, k := range x.Kids {
				walk(k)
			}
		}
		walk(a.Type)
		needs[i] = slices.Sorted(maps.Keys(met))
	}
	behind := order.Behind(needs)
	if len(behind) < len(counted) {
		return nil, api.ErrCycle
	}
	for _, i := range behind {
		t.names = append(t.names, counted[i].Name)
		t.sizeOf(counted[i])
	}
	return t, api.OK
}

// sizeOf is how much an alias is, where that of all to which it leads is known.
func (t *table) sizeOf(a *alias) size {
	if a.state < weighed {
		a.size, a.state = newExpander(t, a.Params).weigh(a.Type), weighed
	}
	return a.size
}

// shapeOf is what an alias is. Only such are asked for it that are not too much: one that is may be named still, where nothing of it is left.
func (t *table) shapeOf(a *alias) *shape {
	if a.state < built {
		a.shape, a.state = newExpander(t, a.Params).build(a.Type), built
	}
	return a.shape
}

// expanded is a type without aliases.
func (t *table) expanded(x api.Term) (api.Term, api.Errno) {
	e := newExpander(t, nil)
	if e.weigh(x).own > api.MaxType {
		return api.Term{}, api.ErrLimit
	}
	return e.build(x).term(), api.OK
}
