package groups

import "slices"

// search finds which places reach one another, by what each needs.
type search struct {
	needs  [][]int
	met    []int // as the how-manyth one each place was met, from 1 on; 0: not yet
	lowest []int // the first met one that is open still, to which each leads
	open   []int // places that are met, and in no group yet
	isOpen []bool
	count  int
	groups [][]int
}

// step is a place to which the search has gone, and which of its needs is next.
type step struct{ place, next int }

func together(needs [][]int) [][]int {
	n := len(needs)
	s := &search{needs: needs, met: make([]int, n), lowest: make([]int, n), isOpen: make([]bool, n)}
	for i := range needs {
		if s.met[i] == 0 {
			s.from(i)
		}
	}
	return s.groups
}

// from searches without calling itself: lets may need one another in a long row.
func (s *search) from(place int) {
	path := []step{s.meet(place)}
down:
	for len(path) > 0 {
		top := &path[len(path)-1]
		for top.next < len(s.needs[top.place]) {
			to := s.needs[top.place][top.next]
			top.next++
			if s.met[to] == 0 {
				path = append(path, s.meet(to))
				continue down
			}
			if s.isOpen[to] {
				s.lowest[top.place] = min(s.lowest[top.place], s.lowest[to])
			}
		}
		s.leave(top.place)
		path = path[:len(path)-1]
		if len(path) > 0 {
			above := path[len(path)-1].place
			s.lowest[above] = min(s.lowest[above], s.lowest[top.place])
		}
	}
}

func (s *search) meet(place int) step {
	s.count++
	s.met[place], s.lowest[place] = s.count, s.count
	s.open, s.isOpen[place] = append(s.open, place), true
	return step{place: place}
}

// leave makes a group of all that are open from a place on, if it leads to none that was met ahead of it.
func (s *search) leave(place int) {
	if s.lowest[place] < s.met[place] {
		return
	}
	var group []int
	for s.isOpen[place] {
		last := s.open[len(s.open)-1]
		s.open, s.isOpen[last] = s.open[:len(s.open)-1], false
		group = append(group, last)
	}
	slices.Sort(group)
	s.groups = append(s.groups, group)
}
