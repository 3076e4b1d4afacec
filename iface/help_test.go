package iface_test

import (
	"encoding/binary"
	"fmt"
	"math/rand/v2"
	"slices"
	"sort"
	"testing"

	"touchstone/api"
	"touchstone/expand"
	"touchstone/iface"
	"touchstone/infer"
	"touchstone/parse"
	"touchstone/scope"
)

// raw is all that is in a thing, as a text; lists that are nil and empty are alike.
func raw(x any) string { return fmt.Sprintf("%+v", x) }

func parsed(t *testing.T, s string) api.Module {
	t.Helper()
	m, at, e := parse.Module(s)
	if e != api.OK {
		t.Fatalf("%q: %d, %v", s, at, e)
	}
	return m
}

// dep is an interface, told as a source: its types, and its lets' names and Anns. Of what is in them qualifiers in small letters are lines: Q is q/1.
func dep(t *testing.T, source string) api.Iface {
	t.Helper()
	m := parsed(t, source)
	i := api.Iface{Types: m.Types}
	for _, x := range m.Lets {
		i.Vals = append(i.Vals, api.Val{Name: x.Name, Type: x.Ann[0]})
	}
	for _, x := range typesIn(&i) {
		lined(x)
	}
	return i
}

// typesIn are all types in an interface.
func typesIn(i *api.Iface) []*api.Term {
	var l []*api.Term
	for _, x := range i.Types {
		for _, c := range x.Cons {
			for n := range c.Args {
				l = append(l, &c.Args[n])
			}
		}
	}
	for n := range i.Vals {
		l = append(l, &i.Vals[n].Type)
	}
	return l
}

func lined(x *api.Term) {
	if x.Pkg == "Q" {
		x.Pkg = "q/1"
	}
	if x.Pkg == "R" {
		x.Pkg = "r/20"
	}
	for i := range x.Kids {
		lined(&x.Kids[i])
	}
}

// of is what Of answers of a source, whose imports have these interfaces.
func of(t *testing.T, source string, deps ...api.Iface) (api.Iface, api.Errno) {
	t.Helper()
	m, e := scope.Resolve(parsed(t, source), deps)
	if e == api.OK {
		m, e = expand.Module(m)
	}
	var vals []api.Val
	if e == api.OK {
		vals, e = infer.Module(m, deps)
	}
	if e != api.OK {
		t.Fatalf("%q: %v", source, e)
	}
	before := raw(m) + raw(vals)
	i, e := iface.Of(m, vals)
	if raw(m)+raw(vals) != before {
		t.Fatalf("%q: what was handed in is changed", source)
	}
	return i, e
}

// wantOf asks for an interface, told as dep has it.
func wantOf(t *testing.T, source, wanted string, deps ...api.Iface) {
	t.Helper()
	i, e := of(t, source, deps...)
	if e != api.OK || raw(i) != raw(dep(t, wanted)) {
		t.Fatalf("%s: %s, %v, not %s", source, raw(i), e, wanted)
	}
	wantRight(t, i)
}

func wantNoIface(t *testing.T, wanted api.Errno, l ...string) {
	t.Helper()
	for _, s := range l {
		if i, e := of(t, s); e != wanted || raw(i) != raw(api.Iface{}) {
			t.Fatalf("%s: %s, %v, not %v", s, raw(i), e, wanted)
		}
	}
}

// wantRight asks that an interface is right, and comes back from its bytes.
func wantRight(t *testing.T, i api.Iface) {
	t.Helper()
	before := raw(i)
	s, e := iface.Encode(i)
	if !iface.Right(i) || e != api.OK || s != told(i) {
		t.Fatalf("%.300s: Right %v; %.100q, %v, not %.100q", before, iface.Right(i), s, e, told(i))
	}
	back, e := iface.Decode(s)
	if e != api.OK || raw(back) != before || raw(i) != before {
		t.Fatalf("%.300s comes back as %.300s, %v", before, raw(back), e)
	}
}

func wantWrong(t *testing.T, what string, i api.Iface) {
	t.Helper()
	s, e := iface.Encode(i)
	if iface.Right(i) || e != api.ErrArg || s != "" {
		t.Fatalf("%s: %.500s: Right %v; %.100q, %v", what, raw(i), iface.Right(i), s, e)
	}
	if x, e := iface.Decode(told(i)); e != api.ErrBroken || raw(x) != raw(api.Iface{}) {
		t.Fatalf("%s: the bytes of %.500s are read as %.300s, %v", what, raw(i), raw(x), e)
	}
}

// told tells the chapter's words of bytes a second time, also of what is not right.
func told(i api.Iface) string {
	s := number(len(i.Types))
	for _, x := range i.Types {
		s += text(x.Name) + number(len(x.Params)) + number(len(x.Cons))
		for _, c := range x.Cons {
			s += text(c.Name) + number(len(c.Args))
			for _, a := range c.Args {
				s += toldType(a)
			}
		}
	}
	s += number(len(i.Vals))
	for _, v := range i.Vals {
		s += text(v.Name) + toldType(v.Type)
	}
	return s
}

func number(n int) string { return string(binary.AppendUvarint(nil, uint64(n))) }

func text(s string) string { return number(len(s)) + s }

func toldType(x api.Term) string {
	s := number(x.Kind)
	if x.Kind == api.TyVar {
		n := 0
		if len(x.Name) > 0 {
			fmt.Sscan(x.Name[1:], &n)
			n = n*26 + int(x.Name[0]) - 'a'
		}
		return s + number(n)
	}
	if x.Kind == api.TyCon {
		s += text(x.Pkg) + text(x.Name)
	}
	if x.Kind != api.TyFun {
		s += number(len(x.Kids))
	}
	for _, k := range x.Kids {
		s += toldType(k)
	}
	return s
}

func pick[T any](d *rand.Rand, l ...T) T { return l[d.IntN(len(l))] }

// someType is a right type of an interface with these types, of variables of the first so many names.
func someType(d *rand.Rand, depth, vars int, types []api.TypeDef) api.Term {
	one := func() api.Term { return someType(d, depth-1, vars, types) }
	many := func(n int) []api.Term {
		var l []api.Term
		for range n {
			l = append(l, one())
		}
		return l
	}
	if depth <= 0 || d.IntN(5) == 0 {
		if vars > 0 && d.IntN(2) == 0 {
			return api.Term{Kind: api.TyVar, Name: pick(d, "a", "b", "c")[:1]}
		}
		return api.Term{Kind: api.TyCon, Name: pick(d, "int", "text")}
	}
	switch d.IntN(4) {
	case 0:
		return api.Term{Kind: api.TyFun, Kids: many(2)}
	case 1:
		return api.Term{Kind: api.TyTuple, Kids: many(pick(d, 0, 2, 3))}
	case 2:
		return api.Term{Kind: api.TyCon, Pkg: pick(d, "a/0", "b2/999999", "list/12"), Name: pick(d, "int", "t", "_x"), Kids: many(d.IntN(3))}
	}
	if len(types) == 0 {
		return one()
	}
	x := pick(d, types...)
	return api.Term{Kind: api.TyCon, Name: x.Name, Kids: many(len(x.Params))}
}

// someIface is a right interface.
func someIface(d *rand.Rand) api.Iface {
	var i api.Iface
	names := []string{"a", "b'", "t", "t1", "_u", "list"}
	sort.Strings(names)
	for _, name := range names {
		if d.IntN(2) == 0 {
			i.Types = append(i.Types, api.TypeDef{Name: name, Params: []string{"a", "b", "c"}[:3*d.IntN(2)]})
		}
	}
	n := 0
	for k := range i.Types {
		x := &i.Types[k]
		for range 1 + d.IntN(3) {
			n++
			c := api.Con{Name: fmt.Sprintf("C%03d", n)}
			for range d.IntN(3) {
				c.Args = append(c.Args, someType(d, 3, len(x.Params), i.Types))
			}
			x.Cons = append(x.Cons, c)
		}
	}
	for _, name := range names {
		if d.IntN(2) == 0 {
			i.Vals = append(i.Vals, api.Val{Name: name, Type: canon(someType(d, 4, 3, i.Types))})
		}
	}
	return i
}

// canon tells a second time what a canonical form is.
func canon(x api.Term) api.Term {
	var names []string
	var renamed func(x api.Term) api.Term
	renamed = func(x api.Term) api.Term {
		if x.Kind == api.TyVar {
			i := slices.Index(names, x.Name)
			if i < 0 {
				i = len(names)
				names = append(names, x.Name)
			}
			x.Name = string(rune('a' + i))
		}
		x.Kids = slices.Clone(x.Kids)
		for i := range x.Kids {
			x.Kids[i] = renamed(x.Kids[i])
		}
		return x
	}
	return renamed(x)
}

func someIfaces(n int) []api.Iface {
	d := rand.New(rand.NewPCG(17, 4))
	var l []api.Iface
	for range n {
		l = append(l, someIface(d))
	}
	return l
}

func expanded(t *testing.T, m api.Module) api.Module {
	t.Helper()
	m, e := expand.Module(m)
	if e != api.OK {
		t.Fatal(e)
	}
	return m
}
