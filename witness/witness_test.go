package witness_test

import (
	"fmt"
	"math/rand/v2"
	"strings"
	"testing"

	"touchstone/api"
	"touchstone/compat"
	"touchstone/parse"
	"touchstone/print"
	"touchstone/witness"
)

const head = "import P = p@1.2.3;\n"

// P20.1: the client of each kind of change.
func TestClient(t *testing.T) {
	wantClient(t, "let f : int = 0;", "", head+"let w = P.f;\n")
	wantClient(t, "let f : 'a -> 'a = 0; let g : int = 0;", "let f : 'a -> 'a = 0;", head+"let w = P.g;\n")
	wantClient(t, "let f : 'a -> 'a = 0;", "let f : int -> int = 0;", head+"let w : 'a -> 'a = P.f;\n")
	wantClient(t, "type t('a) = A; let f : t(int) -> ('a, t('a)) = 0;", "type t('a) = A; let f : int = 0;", head+"let w : P.t(int) -> ('a, P.t('a)) = P.f;\n")
	wantClient(t, "type t = A;", "", head+"let w : P.t -> int = fun x -> 0;\n")
	wantClient(t, "type t('a, 'b) = A;", "", head+"let w : P.t('a, 'b) -> int = fun x -> 0;\n")
	wantClient(t, "type t('a) = A;", "type t = A;", head+"let w : P.t('a) -> int = fun x -> 0;\n")
	wantClient(t, "type t = A;", "type t('a) = A;", head+"let w : P.t -> int = fun x -> 0;\n")
	wantClient(t, "type t = A | B;", "type t = A;", head+"let w : P.t -> int = fun x -> match x with P.A -> 0 | P.B -> 0 end;\n")
	wantClient(t, "type t = A;", "type t = A | B;", head+"let w : P.t -> int = fun x -> match x with P.A -> 0 end;\n")
	wantClient(t, "type t('a) = A | B('a) | C(int, t('a), 'a);", "type t('a) = A | B('a);", head+"let w : P.t('a) -> int = fun x -> match x with P.A -> 0 | P.B(_) -> 0 | P.C(_, _, _) -> 0 end;\n")
	wantClient(t, "type t = A;", "type t = A(int);", head+"let w : P.t = P.A;\n")
	wantClient(t, "type t = A(int);", "type t = A;", head+"let w : int -> P.t = fun x0 -> P.A(x0);\n")
	wantClient(t, "type t('a, 'b) = A('b -> 'a, int);", "type t('a, 'b) = A('a -> 'b, int);", head+"let w : ('b -> 'a) -> int -> P.t('a, 'b) = fun x0 -> fun x1 -> P.A(x0, x1);\n")
	wantClient(t, "type t('a) = A(t(int), 'a, (int, t('a)));", "type t('a) = A('a, 'a, 'a);", head+"let w : P.t(int) -> 'a -> (int, P.t('a)) -> P.t('a) = fun x0 -> fun x1 -> fun x2 -> P.A(x0, x1, x2);\n")
	wantClient(t, "type t('a, 'b) = A('a);", "type t('a, 'b) = A('b);", head+"let w : 'a -> P.t('a, 'b) = fun x0 -> P.A(x0);\n")
}

// P20.1: types of other lines, of which the first use counts; lines rise by names, then by numbers.
func TestOtherLines(t *testing.T) {
	wantClient(t, "let f : Q.t = 0;", "let f : int = 0;", head+"import Q0 = q@2.1.0;\nlet w : Q0.t = P.f;\n")
	wantClient(t, "let f : R.t -> Q.t -> S.u(R.t, 'a) = 0;", "let f : int = 0;", head+"import Q0 = a@0.0.0;\nimport Q1 = q@2.1.0;\nimport Q2 = q@10.0.3;\nlet w : Q2.t -> Q1.t -> Q0.u(Q2.t, 'a) = P.f;\n")
	wantClient(t, "let f : R.t = 0; let g : Q.t = 0;", "let f : R.t = 0;", head+"let w = P.g;\n")
	wantClient(t, "type t = A(Q.t, R.t);", "type t = A(R.t, Q.t);", head+"import Q0 = q@2.1.0;\nimport Q1 = q@10.0.3;\nlet w : Q0.t -> Q1.t -> P.t = fun x0 -> fun x1 -> P.A(x0, x1);\n")
	wantClient(t, "type t = A(Q.t);", "type t = A(Q.t) | B;", head+"let w : P.t -> int = fun x -> match x with P.A(_) -> 0 end;\n")
	a, b := interfaceOf(t, "let f : Q.t = 0;"), interfaceOf(t, "let f : int = 0;")
	for _, x := range [][2]string{{"q@2.0.0 q@2.1.0", "q@2.0.0"}, {"q@1.0.0 q@10.0.3 q@2.9.9 q@2.0.0", "q@2.9.9"}, {"a@2.0.0 q@2.5.0", "q@2.5.0"}} {
		if got, e := witness.Client(a, b, pin(t, "p@1.2.3"), pins(t, x[0])); e != api.OK || got != head+"import Q0 = "+x[1]+";\nlet w : Q0.t = P.f;\n" {
			t.Fatal(x, got, e)
		}
	}
}

// P20.1: each error, and which comes first.
func TestErrors(t *testing.T) {
	a, b := interfaceOf(t, "let f : Q.t = 0;"), interfaceOf(t, "let f : int = 0;")
	at, all := pin(t, "p@1.2.3"), pins(t, uses)
	wrong := []api.Pin{{}, {Pkg: "p", Version: api.Version{Major: -1}}, {Pkg: "p", Version: api.Version{Patch: api.MaxNumber + 1}}, {Pkg: "p", Version: api.Version{Minor: -7}}, {Pkg: "P"}, {Pkg: "1p"}, {Pkg: strings.Repeat("p", 21)}, {Version: api.Version{Major: 1}}, pin(t, "q@2.7.0"), pin(t, "q@2.1.0")}
	for _, p := range append(wrong, at) {
		wantNone(t, api.ErrNone, a, a, p, nil)
		wantNone(t, api.ErrNone, api.Iface{}, a, p, all)
	}
	for _, p := range wrong {
		wantNone(t, api.ErrArg, a, b, p, all)
		wantNone(t, api.ErrArg, a, b, p, nil)
		wantNone(t, api.ErrArg, b, a, p, nil)
	}
	wantNone(t, api.ErrPin, a, b, at, nil)
	wantNone(t, api.ErrPin, a, b, at, pins(t, "q@1.0.0 q@3.0.0 a@2.0.0"))
	if _, e := witness.Client(a, b, pin(t, "q@3.0.0"), all); e != api.OK {
		t.Fatal(e)
	}
	// What no source can tell.
	wantNone(t, api.ErrArg, a, b, pin(t, "let@1.0.0"), all)
	wantNone(t, api.ErrPin, a, b, pin(t, "let@1.0.0"), nil)
	wantNone(t, api.ErrArg, a, b, at, []api.Pin{{Pkg: "q", Version: api.Version{Major: 2, Minor: -1}}})
	many := api.Iface{Types: []api.TypeDef{{Name: "t", Cons: []api.Con{{Name: "A"}}}}}
	for range 60 {
		many.Types[0].Cons[0].Args = append(many.Types[0].Cons[0].Args, api.Term{Kind: api.TyCon, Name: "int"})
	}
	wantNone(t, api.ErrLimit, many, interfaceOf(t, "type t = A;"), at, all)
	wantClient(t, "type t = A;", "type t = A(int, int);", head+"let w : P.t = P.A;\n")
}

// P20.2: what Both tells, and its errors.
func TestBoth(t *testing.T) {
	at, all := pin(t, "p@1.2.3"), pins(t, uses)
	a, b := interfaceOf(t, "let f : Q.t = 0;"), interfaceOf(t, "let f : Q.t = 0; let g : int = 0;")
	for _, x := range []struct {
		a, b   api.Iface
		wanted string
		which  int
		e      api.Errno
	}{
		{a, a, "", 0, api.ErrNone}, {api.Iface{}, api.Iface{}, "", 0, api.ErrNone}, {interfaceOf(t, "type t = A | B;"), api.Iface{Types: []api.TypeDef{{Name: "t", Cons: []api.Con{{Name: "B"}, {Name: "A"}}}}}, "", 0, api.ErrNone},
		{a, b, head + "let w = P.g;\n", 1, api.OK}, {b, a, head + "let w = P.g;\n", 0, api.OK},
		{interfaceOf(t, "let f : int = 0;"), interfaceOf(t, "let f : text = 0;"), head + "let w : int = P.f;\n", 0, api.OK},
		{interfaceOf(t, "let f : int -> int = 0;"), interfaceOf(t, "let f : 'a -> 'a = 0;"), head + "let w : 'a -> 'a = P.f;\n", 1, api.OK},
	} {
		if got, which, e := witness.Both(x.a, x.b, at, all); got != x.wanted || which != x.which || e != x.e {
			t.Fatalf("%s, %s: %q, %d, %v", raw(x.a), raw(x.b), got, which, e)
		}
	}
	// An error leaves nothing else, whichever client it is of.
	c, d := interfaceOf(t, "let f : Q.t -> Q.t = 0;"), interfaceOf(t, "let f : Q.t -> 'a = 0;")
	for _, x := range [][2]api.Iface{{c, d}, {d, c}} {
		if got, which, e := witness.Both(x[0], x[1], at, nil); got != "" || which != 0 || e != api.ErrPin {
			t.Fatal(got, which, e)
		}
		if got, which, e := witness.Both(x[0], x[1], pin(t, "q@2.0.0"), all); got != "" || which != 0 || e != api.ErrArg {
			t.Fatal(got, which, e)
		}
	}
}

// P20.3, P20.4: any interfaces are parted; what is told is read again, and told so.
func TestAny(t *testing.T) {
	d := rand.New(rand.NewPCG(20, 3))
	at, all := pin(t, "p@1.2.3"), pins(t, uses)
	met := map[string]int{}
	for range 3000 {
		a, b := someIface(d), someIface(d)
		if d.IntN(4) == 0 {
			b.Types = a.Types
		}
		below, above := compat.Below(a, b), compat.Below(b, a)
		s, e := witness.Client(a, b, at, all)
		if below {
			wantNone(t, api.ErrNone, a, b, at, all)
		} else {
			met[fmt.Sprint(compat.Missed(a, b).Kind)]++
			if e != api.OK {
				t.Fatalf("%s, %s: %v", raw(a), raw(b), e)
			}
			wantParted(t, s, at, a, b)
			m, _, e := parse.Module(s)
			if again, err := print.Module(m); e != api.OK || err != api.OK || again != s {
				t.Fatalf("%s is read as %s, %v", s, again, e)
			}
		}
		s, which, e := witness.Both(a, b, at, all)
		switch {
		case below && above:
			if e != api.ErrNone || s != "" || which != 0 {
				t.Fatal(s, which, e)
			}
		case e != api.OK:
			t.Fatalf("%s, %s: %v", raw(a), raw(b), e)
		case which == 0:
			wantParted(t, s, at, a, b)
		default:
			wantParted(t, s, at, b, a)
		}
	}
	for kind := api.ChangeGone; kind <= api.ChangeArgs; kind++ {
		if met[fmt.Sprint(kind)] < 20 {
			t.Fatal(met)
		}
	}
}

// P1: what is not right ends too.
func TestAnything(t *testing.T) {
	odd := api.Term{Kind: 99, Pkg: "p/1", Kids: []api.Term{{Kind: api.TyVar, Kids: []api.Term{{}}}, {}}}
	i := api.Iface{Types: []api.TypeDef{{}, {}, {Name: "t", Params: []string{"", "", "a"}, Cons: []api.Con{{Args: []api.Term{odd}}, {Args: []api.Term{odd, odd}}}}}, Vals: []api.Val{{Type: odd}, {Name: "x"}, {}}}
	for _, x := range []api.Iface{{}, interfaceOf(t, "type t('a, 'b, 'c) = A; let x : int = 0;"), {Types: i.Types[:1]}, {Types: []api.TypeDef{{}, {Name: "t", Params: i.Types[2].Params, Cons: []api.Con{{}}}}}} {
		for _, p := range []api.Pin{{}, pin(t, "p@1.0.0")} {
			witness.Both(i, x, p, nil)
			witness.Both(x, i, p, []api.Pin{{}, p})
		}
	}
}
