package infer

import (
	"touchstone/api"
	"touchstone/groups"
	"touchstone/scheme"
	"touchstone/term"
	"touchstone/unify"
)

// found is what is found of a module's lets.
type found struct {
	*engine
	lets  []api.Let
	first map[string]int // of several lets with one name the first one is meant
	types []*api.Term    // by places; none of those that are not found yet, or are too much
	limit bool           // whether one is too much
}

// unknown is any type: what a let is taken for whose own was too much to find.
type unknown struct{}

func (unknown) use(e *engine) int { return e.fresh() }

// moduleLets finds the types of a module's lets, group by group.
func (e *engine) moduleLets(lets []api.Let) *found {
	f := &found{engine: e, lets: lets, first: map[string]int{}, types: make([]*api.Term, len(lets))}
	for i, x := range lets {
		if _, there := f.first[x.Name]; !there {
			f.first[x.Name] = i
		}
		if len(x.Ann) > 0 {
			f.bind(i, given{x.Ann[0]})
		}
	}
	for _, group := range groups.Groups(lets) {
		f.group(group)
		if e.Full() {
			// With all the room for it alone it may be found still, also behind one that was too much: if it has no type, that is told ahead of this.
			f.renew()
			f.group(group)
		}
		for _, i := range group {
			f.note(i)
		}
	}
	return f
}

// bind tells what a let's name has from now on.
func (f *found) bind(i int, is binding) {
	if name := f.lets[i].Name; f.first[name] == i {
		f.entries[key{"", name}] = is
	}
}

// group finds the types of lets that reach one another, or asks that one has its Ann.
func (f *found) group(group []int) {
	if x := f.lets[group[0]]; len(x.Ann) > 0 {
		f.mustHave(x.Body, x.Ann[0], nil)
		return
	}
	ids := make([]int, len(group))
	f.level++
	for n, i := range group {
		ids[n] = f.fresh()
		f.bind(i, fixed(ids[n]))
	}
	for n, i := range group {
		f.same(ids[n], f.infer(f.lets[i].Body))
	}
	f.level--
	for n, i := range group {
		f.Close(ids[n], f.level)
		f.bind(i, generalized(ids[n]))
		if t, fits := f.Term(ids[n]); fits {
			f.types[i] = &t
		}
	}
}

// note tells a let's type, or that it is too much.
func (f *found) note(i int) {
	if ann := f.lets[i].Ann; len(ann) > 0 && term.Size(ann[0]) <= api.MaxType {
		f.types[i] = &ann[0]
	}
	f.limit = f.limit || f.types[i] == nil
}

// renew begins with a new store, in which the types that were found are told anew.
func (f *found) renew() {
	f.Store = unify.New(api.MaxNodes)
	for i, x := range f.lets {
		switch t := f.types[i]; {
		case len(x.Ann) > 0:
		case t != nil:
			f.bind(i, given{*t})
		default:
			f.bind(i, unknown{})
		}
	}
}

// vals are the lets' names and types, if all are found.
func (f *found) vals() ([]api.Val, api.Errno) {
	if f.err != api.OK {
		return nil, f.err
	}
	if f.limit {
		return nil, api.ErrLimit
	}
	var l []api.Val
	for i, x := range f.lets {
		l = append(l, api.Val{Name: x.Name, Type: scheme.Canon(*f.types[i])})
	}
	return l, api.OK
}
