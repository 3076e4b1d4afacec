package infer

import (
	"touchstone/api"
	"touchstone/groups"
)

// lets finds the types of a module's lets, group by group: their numbers, by places; of one whose type is told none is needed.
func (e *engine) lets(lets []api.Let) []int {
	ids := make([]int, len(lets))
	first := map[string]int{} // of several lets with one name the first one is meant
	for i, x := range lets {
		if _, there := first[x.Name]; there {
			continue
		}
		first[x.Name] = i
		if len(x.Ann) > 0 {
			e.entries[key{"", x.Name}] = given{x.Ann[0]}
		}
	}
	bind := func(i int, is binding) {
		if name := lets[i].Name; first[name] == i {
			e.entries[key{"", name}] = is
		}
	}
	for _, group := range groups.Groups(lets) {
		if x := lets[group[0]]; len(x.Ann) > 0 {
			e.mustHave(x.Body, x.Ann[0], nil)
			continue
		}
		e.level++
		for _, i := range group {
			ids[i] = e.fresh()
			bind(i, fixed(ids[i]))
		}
		for _, i := range group {
			e.same(ids[i], e.infer(lets[i].Body))
		}
		e.level--
		for _, i := range group {
			e.Close(ids[i], e.level)
			bind(i, generalized(ids[i]))
		}
	}
	return ids
}
