package unify

import "touchstone/api"

// Unify makes two types the same.
func (s *Store) Unify(a, b int) bool {
	if !s.has(a, b) {
		return false
	}
	// A pair whose first number is below 0 stands behind its Kids: when it comes up these are the same, so that two types of others are gone through once, however often they meet.
	todo := [][2]int{{a, b}}
	for len(todo) > 0 {
		pair := todo[len(todo)-1]
		todo = todo[:len(todo)-1]
		if pair[0] < 0 {
			s.merge(^pair[0], pair[1])
			continue
		}
		x, y := s.find(pair[0]), s.find(pair[1])
		switch {
		case x == y:
		case s.types[x].kind == api.TyVar || s.types[y].kind == api.TyVar:
			if !s.bind(x, y) {
				return false
			}
		case !s.alike(x, y):
			return false
		default:
			todo = append(todo, [2]int{^x, y})
			for i := len(s.types[x].kids) - 1; i >= 0; i-- {
				todo = append(todo, [2]int{s.types[x].kids[i], s.types[y].kids[i]})
			}
		}
	}
	return true
}

// merge makes one type of two that are the same.
func (s *Store) merge(a, b int) {
	if a, b = s.find(a), s.find(b); a != b {
		s.types[a].becomes = b
	}
}

// alike tells whether two types that are no variables are the same, if their Kids are.
func (s *Store) alike(a, b int) bool {
	x, y := &s.types[a], &s.types[b]
	return x.kind == y.kind && x.kind != api.TyRigid && x.pkg == y.pkg && x.name == y.name && len(x.kids) == len(y.kids)
}

// bind makes a variable the same as another type. Of two variables the one that was made first stays.
func (s *Store) bind(a, b int) bool {
	if s.types[a].kind != api.TyVar || s.types[b].kind == api.TyVar && a < b {
		a, b = b, a
	}
	level := s.types[a].level
	var inner []int
	fits := s.walk(b, func(id int) bool {
		switch n := &s.types[id]; n.kind {
		case api.TyVar:
			inner = append(inner, id)
			return id != a
		case api.TyRigid:
			return n.level <= level
		}
		return true
	})
	if !fits {
		return false
	}
	for _, id := range inner {
		s.types[id].level = min(s.types[id].level, level)
	}
	s.types[a].becomes = b
	return true
}
