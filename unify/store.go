package unify

import (
	"slices"

	"touchstone/api"
)

// Store has types.
type Store struct {
	types  []node
	budget int
	made   bool // no call makes a zero Store: it is answered like none
	full   bool
	walks  int
}

// node is a type.
type node struct {
	kind      int // TyVar, TyRigid, or that of a type of others
	pkg, name string
	kids      []int
	level     int
	closed    bool
	becomes   int  // the type that it is the same as; below 0: none
	plain     bool // no variables, nor rigid ones, are in it
	walk      int  // the last one that came by
}

// New makes one.
func New(budget int) *Store {
	return &Store{budget: min(max(budget, 0), api.MaxNodes), made: true}
}

// Full tells whether more was asked for than may be.
func (s *Store) Full() bool { return s == nil || !s.made || s.full }

// has tells whether all these are types.
func (s *Store) has(ids ...int) bool {
	return !s.Full() && !slices.ContainsFunc(ids, func(id int) bool { return id < 0 || id >= len(s.types) })
}

// add is a new type's number.
func (s *Store) add(n node) int {
	if s.Full() {
		return -1
	}
	if len(s.types) >= s.budget {
		s.full = true
		return -1
	}
	n.becomes = -1
	s.types = append(s.types, n)
	return len(s.types) - 1
}

// Var makes a variable.
func (s *Store) Var(level int) int { return s.add(node{kind: api.TyVar, level: level}) }

// Rigid makes a variable that stands for itself.
func (s *Store) Rigid(level int) int { return s.add(node{kind: api.TyRigid, level: level}) }

// Make makes a type of others.
func (s *Store) Make(kind int, pkg, name string, kids ...int) int {
	if !isOfOthers(kind) || !s.has(kids...) {
		return -1
	}
	plain := !slices.ContainsFunc(kids, func(id int) bool { return !s.types[id].plain })
	return s.add(node{kind: kind, pkg: pkg, name: name, kids: slices.Clone(kids), plain: plain})
}

func isOfOthers(kind int) bool {
	return kind == api.TyCon || kind == api.TyFun || kind == api.TyTuple
}

// Import makes a term's type.
func (s *Store) Import(t api.Term, vars map[string]int, fresh func() int) int {
	if !s.mayImport(t, vars, fresh != nil) {
		return -1
	}
	if vars == nil {
		vars = map[string]int{}
	}
	var imported func(t api.Term) int
	imported = func(t api.Term) int {
		if t.Kind == api.TyVar {
			return s.variable(t.Name, vars, fresh)
		}
		kids := make([]int, len(t.Kids))
		for i, k := range t.Kids {
			if kids[i] = imported(k); kids[i] < 0 {
				return -1
			}
		}
		return s.Make(t.Kind, t.Pkg, t.Name, kids...)
	}
	return imported(t)
}

// mayImport tells ahead whether a term is a type, so that nothing is made of one that is none.
func (s *Store) mayImport(t api.Term, vars map[string]int, mayMake bool) bool {
	if t.Kind == api.TyVar {
		id, there := vars[t.Name]
		return len(t.Kids) == 0 && (there && s.has(id) || !there && mayMake && s.has())
	}
	return isOfOthers(t.Kind) && s.has() && !slices.ContainsFunc(t.Kids, func(k api.Term) bool { return !s.mayImport(k, vars, mayMake) })
}

// variable is the type that a name has, or a new one, which it has from then on.
func (s *Store) variable(name string, vars map[string]int, fresh func() int) int {
	if id, there := vars[name]; there {
		return id
	}
	id := fresh()
	if !s.has(id) {
		return -1
	}
	vars[name] = id
	return id
}

// find is the type that one has become.
func (s *Store) find(id int) int {
	for s.types[id].becomes >= 0 {
		next := s.types[id].becomes
		if further := s.types[next].becomes; further >= 0 {
			s.types[id].becomes = further
		}
		id = next
	}
	return id
}

// walk goes over what is in a type and not plain, each type once, as long as that is answered with true.
func (s *Store) walk(id int, seen func(id int) bool) bool {
	s.walks++
	todo := []int{id}
	for len(todo) > 0 {
		id := s.find(todo[len(todo)-1])
		todo = todo[:len(todo)-1]
		n := &s.types[id]
		if n.plain || n.walk == s.walks {
			continue
		}
		n.walk = s.walks
		if !seen(id) {
			return false
		}
		todo = append(todo, n.kids...)
	}
	return true
}
