package expand

import "touchstone/api"

// size is how many terms a type will have: its own ones, and those of what is put in, each as often as it stands there. None counts further than one more than may be.
type size struct {
	own    int
	params map[int]int // how often each Param stands, if it does
}

func (s *size) add(x size, times int) {
	s.own = upToLimit(s.own + times*x.own)
	for i, n := range x.params {
		if s.params == nil {
			s.params = map[int]int{}
		}
		s.params[i] = upToLimit(s.params[i] + times*n)
	}
}

func upToLimit(n int) int { return min(n, api.MaxType+1) }

// shape is an expanded type, or, in an alias's, the place of a Param. Shapes are shared, and never changed.
type shape struct {
	head  api.Term // without Kids
	kids  []*shape
	param int // which one stands here; below 0: none
}

func (s *shape) term() api.Term {
	t := s.head
	for _, k := range s.kids {
		t.Kids = append(t.Kids, k.term())
	}
	return t
}

// expander expands types; in them it knows the Params of the alias whose type it is, if it is one's.
type expander struct {
	*table
	params map[string]int
}

func newExpander(t *table, params []string) *expander {
	e := &expander{t, map[string]int{}}
	for i, name := range params {
		if _, there := e.params[name]; !there {
			e.params[name] = i
		}
	}
	return e
}

// param is the place of the Param that a term is.
func (e *expander) param(x api.Term) (int, bool) {
	if x.Kind != api.TyVar {
		return 0, false
	}
	i, there := e.params[x.Name]
	return i, there
}

// weigh reckons how much a type will be, without making it: it may be more than there is room for.
func (e *expander) weigh(x api.Term) size {
	if i, is := e.param(x); is {
		return size{params: map[int]int{i: 1}}
	}
	a := e.named(x)
	if a == nil {
		s := size{own: 1}
		for _, k := range x.Kids {
			s.add(e.weigh(k), 1)
		}
		return s
	}
	whole := e.sizeOf(a)
	s := size{own: whole.own}
	for i, times := range whole.params {
		if i < len(x.Kids) {
			s.add(e.weigh(x.Kids[i]), times)
		} else {
			s.add(size{own: 1}, times)
		}
	}
	return s
}

// build makes the shape of a type that is not too much.
func (e *expander) build(x api.Term) *shape {
	if i, is := e.param(x); is {
		return &shape{param: i}
	}
	if a := e.named(x); a != nil {
		return e.shapeOf(a).with(e.given(a, x.Kids))
	}
	s := &shape{head: x, param: -1}
	s.head.Kids = nil
	for _, k := range x.Kids {
		s.kids = append(s.kids, e.build(k))
	}
	return s
}

// given is what is put in the place of an alias's Params, as far as they stand in it. What is not told stays a variable.
func (e *expander) given(a *alias, kids []api.Term) map[int]*shape {
	by := map[int]*shape{}
	for i := range e.sizeOf(a).params {
		if i < len(kids) {
			by[i] = e.build(kids[i])
		} else {
			by[i] = &shape{head: api.Term{Kind: api.TyVar, Name: a.Params[i]}, param: -1}
		}
	}
	return by
}

// with is a shape with others in the place of Params.
func (s *shape) with(by map[int]*shape) *shape {
	if s.param >= 0 {
		return by[s.param]
	}
	made := &shape{head: s.head, param: -1}
	for _, k := range s.kids {
		made.kids = append(made.kids, k.with(by))
	}
	return made
}
