package unify_test

import (
	"math/rand/v2"
	"slices"
	"testing"

	"touchstone/api"
	"touchstone/unify"
)

// thing is a type, as the second telling has it: by pointers, without numbers, budgets or walks.
type thing struct {
	kind   int
	name   string
	kids   []*thing
	level  int
	closed bool
	is     *thing
	number int
}

func (x *thing) now() *thing {
	for x.is != nil {
		x = x.is
	}
	return x
}

func (x *thing) all(do func(*thing)) {
	x = x.now()
	do(x)
	for _, k := range x.kids {
		k.all(do)
	}
}

func (x *thing) same(y *thing) bool {
	x, y = x.now(), y.now()
	if x == y {
		return true
	}
	if y.kind == api.TyVar {
		x, y = y, x
	}
	if x.kind == api.TyVar {
		right := true
		y.all(func(z *thing) {
			right = right && z != x && !(z.kind == api.TyRigid && z.level > x.level)
		})
		if right {
			y.all(func(z *thing) {
				if z.kind == api.TyVar {
					z.level = min(z.level, x.level)
				}
			})
			x.is = y
		}
		return right
	}
	if x.kind != y.kind || x.kind == api.TyRigid || x.name != y.name || len(x.kids) != len(y.kids) {
		return false
	}
	for i := range x.kids {
		if !x.kids[i].same(y.kids[i]) {
			return false
		}
	}
	return true
}

func (x *thing) copied(level int, by map[*thing]*thing) *thing {
	x = x.now()
	if by[x] == nil {
		y := *x
		if by[x] = &y; x.kind == api.TyVar && x.closed {
			y.closed, y.level = false, level
		} else if x.kind == api.TyVar || x.kind == api.TyRigid {
			by[x] = x
		}
		y.kids = slices.Clone(x.kids)
		for i := range y.kids {
			y.kids[i] = y.kids[i].copied(level, by)
		}
	}
	return by[x]
}

// P13.3: anything that may be done with a store, held against the second telling; what a failed Unify leaves is not told by the chapter, so it is the end.
func TestStoreAny(t *testing.T) {
	d := rand.New(rand.NewPCG(13, 3))
	did := map[string]int{}
	for range 20000 {
		s := unify.New(1000)
		things := map[int]*thing{}
		var ids []int
		add := func(id int, x *thing) {
			if things[id] == nil {
				x.number = id
				things[id] = x
			}
			ids = append(ids, id)
		}
		add(s.Var(1), &thing{kind: api.TyVar, level: 1})
		for range 5 + d.IntN(25) {
			a, b, level := pick(d, ids...), pick(d, ids...), d.IntN(4)
			switch d.IntN(12) {
			case 0, 1:
				add(s.Var(level), &thing{kind: api.TyVar, level: level})
			case 2:
				add(s.Rigid(level), &thing{kind: api.TyRigid, level: level})
			case 3, 4, 5:
				kind := pick(d, api.TyFun, api.TyTuple)
				add(s.Make(kind, "", "", a, b), &thing{kind: kind, kids: []*thing{things[a], things[b]}})
			case 6:
				name := pick(d, "int", "text")
				add(s.Make(api.TyCon, "", name), &thing{kind: api.TyCon, name: name})
			case 7:
				s.Close(a, level)
				things[a].all(func(x *thing) { x.closed = x.closed || x.kind == api.TyVar && x.level > level })
			case 8:
				c := things[a].copied(level, map[*thing]*thing{})
				id := s.Copy(a, level)
				add(id, c)
				did["copy"]++
			default:
				closed := false
				for _, id := range []int{a, b} {
					things[id].all(func(x *thing) { closed = closed || x.closed })
				}
				if closed { // the chapter does not tell what comes of closed ones
					continue
				}
				right := things[a].same(things[b])
				if got := s.Unify(a, b); got != right {
					t.Fatalf("Unify(%d, %d): %v", a, b, got)
				}
				if !right {
					did["fail"]++
					goto next
				}
				did["unify"]++
			}
		}
		wantAlike(t, s, ids, things)
	next:
	}
	if did["copy"] < 10000 || did["fail"] < 5000 || did["unify"] < 10000 {
		t.Fatal(did)
	}
}

// wantAlike asks that the store tells all types, side by side, as the second telling has them.
func wantAlike(t *testing.T, s *unify.Store, ids []int, things map[int]*thing) {
	t.Helper()
	got, fits := s.Term(s.Make(api.TyTuple, "", "", ids...))
	n := 1
	names := map[*thing]string{}
	rigid := map[*thing]int{}
	var told func(x *thing) api.Term
	told = func(x *thing) api.Term {
		n++
		x = x.now()
		switch x.kind {
		case api.TyVar:
			if names[x] == "" {
				i := len(names)
				names[x] = string(rune('a' + i%26))
				if i > 25 {
					names[x] += "1"
				}
			}
			return api.Term{Kind: x.kind, Name: names[x]}
		case api.TyRigid:
			rigid[x] = x.number
			return api.Term{Kind: x.kind, Name: "r" + raw(x.number)}
		}
		y := api.Term{Kind: x.kind, Name: x.name}
		for _, k := range x.kids {
			if n <= api.MaxType {
				y.Kids = append(y.Kids, told(k))
			}
		}
		return y
	}
	wanted := api.Term{Kind: api.TyTuple}
	for _, id := range ids {
		if n <= api.MaxType {
			wanted.Kids = append(wanted.Kids, told(things[id]))
		}
	}
	if fits != (n <= api.MaxType) || fits && raw(got) != raw(wanted) {
		t.Fatalf("%.500s, %v, not %.500s", raw(got), fits, raw(wanted))
	}
}
