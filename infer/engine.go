package infer

import (
	"touchstone/api"
	"touchstone/scheme"
	"touchstone/unify"
)

// binding is what a name has.
type binding interface {
	// use makes the type that one use of the name has.
	use(e *engine) int
}

// fixed is just that type, by its number.
type fixed int

// generalized is a type whose closed variables stand for any type.
type generalized int

// given is a type all of whose variables stand for any type.
type given struct{ api.Term }

func (b fixed) use(*engine) int         { return int(b) }
func (b generalized) use(e *engine) int { return e.Copy(int(b), e.level) }
func (b given) use(e *engine) int       { return e.load(b.Term, e.fresh) }

// local is a name that is bound, and what it has.
type local struct {
	name string
	is   binding
}

// key is whose a name is, and it.
type key struct{ pkg, name string }

// engine finds types, in a store of them.
type engine struct {
	*unify.Store
	level   int // how many lets and told types there are around whose variables may come to stand for any type
	err     api.Errno
	bound   map[string][]binding // what is bound around, the innermost one last
	entries map[key]binding
	cons    map[key]api.Cons
}

func newEngine(env []api.Entry, cons []api.Cons) *engine {
	e := &engine{Store: unify.New(api.MaxNodes), bound: map[string][]binding{}, entries: map[key]binding{}, cons: map[key]api.Cons{}}
	for _, x := range env {
		if k := (key{x.Pkg, x.Name}); e.entries[k] == nil {
			e.entries[k] = given{x.Type}
		}
	}
	for _, c := range cons {
		k := key{c.Pkg, c.Name}
		if _, there := e.cons[k]; !there {
			e.cons[k] = c
		}
	}
	return e
}

// fail notes an error; of several the one that is named first, whose number is the smallest.
func (e *engine) fail(err api.Errno) int {
	if e.err == api.OK || err < e.err {
		e.err = err
	}
	return -1
}

// same makes two types the same. When the store is full it can't, and that is no fault of the types.
func (e *engine) same(a, b int) {
	if !e.Unify(a, b) && !e.Full() {
		e.fail(api.ErrType)
	}
}

func (e *engine) fresh() int { return e.Var(e.level) }
func (e *engine) rigid() int { return e.Rigid(e.level) }

// load makes a type, with what variable makes for each variable.
func (e *engine) load(t api.Term, variable func() int) int {
	id := e.Import(t, nil, variable)
	if id < 0 && !e.Full() {
		return e.fail(api.ErrType)
	}
	return id
}

// with does something where names are bound.
func (e *engine) with(l []local, do func() int) int {
	for _, x := range l {
		e.bound[x.name] = append(e.bound[x.name], x.is)
	}
	id := do()
	for _, x := range l {
		e.bound[x.name] = e.bound[x.name][:len(e.bound[x.name])-1]
	}
	return id
}

// told is what was found: a type, or the error.
func (e *engine) told(id int) (api.Term, api.Errno) {
	if e.err != api.OK {
		return api.Term{}, e.err
	}
	t, fits := e.Term(id)
	if !fits {
		return api.Term{}, api.ErrLimit
	}
	return scheme.Canon(t), api.OK
}
