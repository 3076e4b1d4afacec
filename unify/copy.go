package unify

import "touchstone/api"

// Close closes a type's variables.
func (s *Store) Close(id, level int) {
	if !s.has(id) {
		return
	}
	s.walk(id, func(id int) bool {
		if n := &s.types[id]; n.kind == api.TyVar && n.level > level {
			n.closed = true
		}
		return true
	})
}

// Copy copies a type for its closed variables.
func (s *Store) Copy(id, level int) int {
	if !s.has(id) {
		return -1
	}
	root := s.find(id)
	copies := map[int]int{}
	todo := []int{root}
	for len(todo) > 0 {
		next := todo[len(todo)-1]
		kids := s.uncopied(next, copies)
		if todo = append(todo, kids...); len(kids) > 0 {
			continue
		}
		todo = todo[:len(todo)-1]
		if _, done := copies[next]; done {
			continue
		}
		if copies[next] = s.copyOne(next, level, copies); copies[next] < 0 {
			return -1
		}
	}
	if copies[root] == root {
		return id
	}
	return copies[root]
}

// uncopied are the Kids of a type that are to be copied ahead of it, the first one at the end.
func (s *Store) uncopied(id int, copies map[int]int) []int {
	if _, done := copies[id]; done || s.types[id].plain {
		return nil
	}
	var l []int
	kids := s.types[id].kids
	for i := len(kids) - 1; i >= 0; i-- {
		k := s.find(kids[i])
		if _, done := copies[k]; !done {
			l = append(l, k)
		}
	}
	return l
}

// copyOne is the copy of a type whose Kids have theirs: itself, if these have.
func (s *Store) copyOne(id, level int, copies map[int]int) int {
	n := s.types[id]
	if n.plain || n.kind == api.TyVar && !n.closed {
		return id
	}
	if n.kind == api.TyVar {
		return s.Var(level)
	}
	changed := false
	kids := make([]int, len(n.kids))
	for i, k := range n.kids {
		k = s.find(k)
		kids[i] = copies[k]
		changed = changed || copies[k] != k
	}
	if !changed {
		return id
	}
	return s.Make(n.kind, n.pkg, n.name, kids...)
}

// Term is a type as a term.
func (s *Store) Term(id int) (api.Term, bool) {
	if !s.has(id) {
		return api.Term{}, false
	}
	places := map[int]int{}
	return s.tell(id, func(variable int) api.Term {
		if _, met := places[variable]; !met {
			places[variable] = len(places)
		}
		return api.Term{Kind: api.TyVar, Name: varName(places[variable])}
	})
}
