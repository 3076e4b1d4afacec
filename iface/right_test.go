package iface_test

import (
	"fmt"
	"math"
	"slices"
	"strings"
	"testing"

	"touchstone/api"
	"touchstone/iface"
	"touchstone/infer"
	"touchstone/parse"
	"touchstone/scheme"
	"touchstone/scope"
)

func ofModule(t *testing.T, m api.Module) (api.Iface, api.Errno) {
	t.Helper()
	m, e := scope.Resolve(m, nil)
	if e != api.OK {
		t.Fatal(e)
	}
	m = expanded(t, m)
	vals, e := infer.Module(m, nil)
	if e != api.OK {
		t.Fatal(e)
	}
	return iface.Of(m, vals)
}

const right = "type list('a) = Cons('a, list('a)) | Nil; type t('a, 'b) = A('b -> 'a, int, Q.u) | B((), Q.int(text)); type u = U(t(int, u)); let f : 'a -> 'b -> list('a) = 0; let g : (int, R.text, t('a, 'a)) = 0; let h : u = 0;"

// P17.2, P17.3: interfaces that are right.
func TestRight(t *testing.T) {
	wantRight(t, api.Iface{})
	for _, s := range []string{right, "type t = A;", "let x : int = 0;", "let _x : () = 0; let a' : text = 0; let t : 'a = 0;", "type _t = A; type a = A' | B; type z('a) = Z;", "type lets = L; let rec1 : lets = 0;"} {
		wantRight(t, dep(t, s))
	}
	many := api.Iface{Types: []api.TypeDef{{Name: "t", Cons: []api.Con{{Name: "A"}}}}}
	for n := 1; n <= api.MaxType; n++ {
		many.Types[0].Params = append(many.Types[0].Params, scheme.VarName(n-1))
		if n%97 == 0 || n == api.MaxType {
			many.Types[0].Cons[0].Args = []api.Term{{Kind: api.TyVar, Name: scheme.VarName(n - 1)}}
			wantRight(t, many)
		}
	}
	many.Types[0].Params = append(many.Types[0].Params, scheme.VarName(api.MaxType))
	wantWrong(t, "a Param too many", many)
}

// tuple is a type of so many terms.
func tuple(n int) api.Term {
	x := api.Term{Kind: api.TyTuple}
	for range n - 1 {
		x.Kids = append(x.Kids, api.Term{Kind: api.TyCon, Name: "int"})
	}
	return x
}

// P17.2, P17.3: interfaces that are not right, in each field, in turn.
func TestWrong(t *testing.T) {
	for _, s := range []string{
		// types
		"type b = A; type a = B;", "type a = A; type a = B;", "type int = A;", "type text = A;",
		// constructors
		"type t = B | A;", "type t = A | A;", "type t = A; type u = A;", "type t = A | C; type u = B | C;", "type t = A('a);", "type t('a) = A(int -> 'b);", "type t('a) = A | B(list('a));", "type t('a) = A(t);", "type t('a) = A(t(int, int));", "type t = A(t(int));", "type t = A(int(int));", "type t = A(u);",
		// values
		"let b : int = 0; let a : int = 0;", "let a : int = 0; let a : int = 0;", "let x : 'b = 0;", "let x : 'a -> 'c = 0;", "let x : 'b -> 'a = 0;", "let x : t = 0;", "let x : int(text) = 0;", "let x : text -> text(int) = 0;", "type t('a) = A; let x : t = 0;", "type t = A; let x : t('a) = 0;",
	} {
		wantWrong(t, s, dep(t, s))
	}
	// Each field of each part, turned into something else.
	names := []string{"", "X", "let", "_", "a b", "1", "'a", "a.b", strings.Repeat("a", 31), "é"}
	for n, name := range append(names, "Cons'", "int") {
		i := dep(t, right)
		if i.Types[n%3].Name = name; name != "Cons'" {
			wantWrong(t, "a type "+name, i)
		}
		i = dep(t, right)
		if i.Vals[n%3].Name = name; name != "int" {
			wantWrong(t, "a value "+name, i)
		}
	}
	for _, name := range []string{"", "x", "_", "_A", "A b", "'A", "A.B", strings.Repeat("A", 31), "Z\n"} {
		i := dep(t, right)
		i.Types[2].Cons[0].Name = name
		wantWrong(t, "a constructor "+name, i)
	}
	i := dep(t, right)
	i.Types[1].Cons = nil
	wantWrong(t, "no constructor", i)
	// Names of Params are not told in the bytes.
	for _, params := range []string{"'b", "'a, 'c", "'a, 'a", "'b, 'a", "'a1", "'aa"} {
		i = dep(t, "type t("+params+") = A;")
		if s, e := iface.Encode(i); iface.Right(i) || e != api.ErrArg || s != "" {
			t.Fatal(params, e)
		}
	}
	for _, name := range []string{"", "b", "B", "'a", "a1", "a b"} {
		i = dep(t, right)
		i.Types[0].Params[0] = name
		if i.Types[0].Cons[0].Args[0].Name = name; iface.Right(i) {
			t.Fatal("a Param", name)
		}
	}
	for _, n := range []int{api.MaxType - 1, api.MaxType, api.MaxType + 1, api.MaxType + 2} {
		for place := range 2 {
			i = dep(t, right)
			if place == 0 {
				i.Types[2].Cons[0].Args[0] = tuple(n)
			} else {
				i.Vals[1].Type = tuple(n)
			}
			if n > api.MaxType {
				wantWrong(t, "a type of too many terms", i)
			} else {
				wantRight(t, i)
			}
		}
	}
}

// P17.2: types that are not right, in each part.
func TestWrongTypes(t *testing.T) {
	integer := api.Term{Kind: api.TyCon, Name: "int"}
	two := []api.Term{integer, integer}
	wrong := []api.Term{{}, {Kind: api.TyVar}, {Kind: api.TyVar, Name: "A"}, {Kind: api.TyVar, Name: "a'"}, {Kind: api.TyVar, Name: "a", N: 1}, {Kind: api.TyVar, Name: "a", Pkg: "q/1"}, {Kind: api.TyVar, Name: "a", Kids: two},
		{Kind: api.TyFun}, {Kind: api.TyFun, Kids: two[:1]}, {Kind: api.TyFun, Kids: append(two, integer)}, {Kind: api.TyFun, Kids: two, Name: "f"}, {Kind: api.TyFun, Kids: two, Pkg: "q/1"}, {Kind: api.TyFun, Kids: two, N: 1},
		{Kind: api.TyTuple, Kids: two[:1]}, {Kind: api.TyTuple, Kids: two, Name: "f"}, {Kind: api.TyTuple, Kids: two, Pkg: "q/1"}, {Kind: api.TyTuple, N: -1},
		{Kind: api.TyCon}, {Kind: api.TyCon, Name: "T"}, {Kind: api.TyCon, Name: "let"}, {Kind: api.TyCon, Name: "int", N: 1}, {Kind: api.TyCon, Pkg: "q/1"}, {Kind: api.TyCon, Pkg: "q/1", Name: "T"}, {Kind: api.TyCon, Name: "a b", Pkg: "q/1"},
		{Kind: api.TyRigid, Name: "a"}, {Kind: api.PaAny}, {Kind: api.ExVar, Name: "a"}, {Kind: -1}, {Kind: 1 << 40}}
	for _, line := range []string{"q", "Q", "q/", "/1", "q/01", "q/-1", "q/1000000", "q/1/1", "q/1.0", "q/1 ", " q/1", "Q/1", "q_/1", "1q/1", "q/a", strings.Repeat("q", 21) + "/1"} {
		wrong = append(wrong, api.Term{Kind: api.TyCon, Pkg: line, Name: "t"})
	}
	for _, line := range []string{"q/0", "q/999999", "q1/10", strings.Repeat("q", 20) + "/1"} {
		wantRight(t, api.Iface{Vals: []api.Val{{Name: "x", Type: api.Term{Kind: api.TyCon, Pkg: line, Name: "t"}}}})
	}
	for _, x := range wrong {
		around := []api.Term{x, {Kind: api.TyFun, Kids: []api.Term{integer, x}}, {Kind: api.TyTuple, Kids: []api.Term{x, integer}}, {Kind: api.TyCon, Pkg: "q/1", Name: "t", Kids: []api.Term{x}}, {Kind: api.TyCon, Name: "list", Kids: []api.Term{x}}}
		for _, y := range around {
			for place := range 3 {
				i := dep(t, right)
				switch place {
				case 0:
					i.Vals[2].Type = y
				case 1:
					i.Types[2].Cons[0].Args[0] = y
				case 2: // where there is a Param 'a
					i.Types[0].Cons[0].Args[0] = y
				}
				s, e := iface.Encode(i)
				if iface.Right(i) || e != api.ErrArg || s != "" {
					t.Fatalf("%s: %v, %v", raw(y), iface.Right(i), e)
				}
			}
		}
	}
	deep := integer
	for range 60000 {
		deep = api.Term{Kind: api.TyFun, Kids: []api.Term{integer, deep}}
	}
	if iface.Right(api.Iface{Vals: []api.Val{{Name: "x", Type: deep}}}) {
		t.Fatal("deep")
	}
}

// P17.2: the lines whose types are in it.
func TestLines(t *testing.T) {
	if got := iface.Lines(api.Iface{}); len(got) > 0 {
		t.Fatal(got)
	}
	con := func(pkg string, kids ...api.Term) api.Term {
		return api.Term{Kind: api.TyCon, Pkg: pkg, Name: "t", Kids: kids}
	}
	i := api.Iface{
		Types: []api.TypeDef{{Cons: []api.Con{{Args: []api.Term{con("b/10", con("c/1")), con("")}}, {Args: []api.Term{con("b/2")}}}}, {Cons: []api.Con{{Args: []api.Term{con("b/10")}}}}},
		Vals:  []api.Val{{Type: api.Term{Kind: api.TyFun, Kids: []api.Term{con("a2/0"), con("b/9", con("a/999999"))}}}, {Type: con("b/2")}, {Type: con("a/1000000")}, {Type: con("a/01")}, {Type: con("A/1")}, {Type: con("none")}, {Type: con("/1")}, {Type: con("a/-1")}},
	}
	wanted := []api.Line{{Pkg: "a", Major: 999999}, {Pkg: "a2", Major: 0}, {Pkg: "b", Major: 2}, {Pkg: "b", Major: 9}, {Pkg: "b", Major: 10}, {Pkg: "c", Major: 1}}
	if got := iface.Lines(i); !slices.Equal(got, wanted) {
		t.Fatal(got)
	}
	if got := iface.Lines(dep(t, right)); !slices.Equal(got, []api.Line{{Pkg: "q", Major: 1}, {Pkg: "r", Major: 20}}) {
		t.Fatal(got)
	}
}

// P17.3: bytes that are known.
func TestBytes(t *testing.T) {
	for _, x := range []struct{ source, bytes string }{
		{"", "\x00\x00"},
		{"let x : int = 0;", "\x00\x01\x01x\x02\x00\x03int\x00"},
		{"type t('a) = A('a, ()) | B; let f : 'a -> 'b -> Q.t('a) = 0;", "\x01\x01t\x01\x02\x01A\x02\x01\x00\x04\x00\x01B\x00\x01\x01f\x03\x01\x00\x03\x01\x01\x02\x03q/1\x01t\x01\x01\x00"},
	} {
		if got, e := iface.Encode(dep(t, x.source)); got != x.bytes || e != api.OK {
			t.Fatalf("%s: %q, %v", x.source, got, e)
		}
	}
}

func wantBroken(t *testing.T, s string) {
	t.Helper()
	if i, e := iface.Decode(s); e != api.ErrBroken || raw(i) != raw(api.Iface{}) {
		t.Fatalf("%.200q: %.300s, %v", s, raw(i), e)
	}
}

// P17.3: bytes that are no interface's: cut off, with one more, turned, numbers told otherwise.
func TestBroken(t *testing.T) {
	whole, e := iface.Encode(dep(t, right))
	if e != api.OK {
		t.Fatal(e)
	}
	for n := range len(whole) {
		wantBroken(t, whole[:n])
		for b := range 256 {
			turned := whole[:n] + string([]byte{byte(b)}) + whole[n+1:]
			i, e := iface.Decode(turned)
			if e == api.ErrBroken && raw(i) == raw(api.Iface{}) && turned != whole {
				continue
			}
			if again, err := iface.Encode(i); e != api.OK || err != api.OK || again != turned || !iface.Right(i) {
				t.Fatalf("%d, %d: %v, %v", n, b, e, err)
			}
		}
		// A number in more bytes than it needs.
		wantBroken(t, whole[:n]+string([]byte{whole[n] | 0x80, 0})+whole[n+1:])
	}
	for b := range 256 {
		wantBroken(t, whole+string([]byte{byte(b)}))
	}
	huge := "\xFF\xFF\xFF\xFF\xFF\xFF\xFF\xFF\xFF\x01"
	wantBroken(t, "")
	wantBroken(t, huge)
	wantBroken(t, "\x00"+huge)
	wantBroken(t, "\x01\x01t"+huge+"\x01\x01A\x00\x00")
	wantBroken(t, "\x00\x01\x01x\x01"+huge)
	wantBroken(t, "\x00\x01\x01x"+huge+"\x00")
	wantBroken(t, "\x00\x01\x01x\x04"+huge)
	wantBroken(t, "\x00\x01\x01x"+strings.Repeat("\x03", 1<<20))
	wantBroken(t, "\x00\x01\x01x"+strings.Repeat("\x04\x02", 1<<20))
	wantBroken(t, "\x00\x01\x01x"+strings.Repeat("\x03\x01\x00", api.MaxType/2)+"\x01\x00")
	wantBroken(t, "\x00\x01\x01x\x01\x01")
	wantBroken(t, fmt.Sprintf("\x00\x01\x01x\x04%s%s", number(math.MaxInt32), strings.Repeat("\x04\x00", 2000)))
}

// P17.4, P17.5: any right interfaces come back; lists are the caller's own.
func TestBack(t *testing.T) {
	for _, i := range someIfaces(3000) {
		wantRight(t, i)
	}
	s, _ := iface.Encode(dep(t, right))
	a, _ := iface.Decode(s)
	b, _ := iface.Decode(s)
	a.Types[0].Params[0], a.Types[0].Cons[0].Args[1].Kids[0].Name, a.Vals[0].Type.Kids[0].Name = "?", "?", "?"
	if raw(b) != raw(dep(t, right)) {
		t.Fatal("what is handed out is shared")
	}
	if _, _, e := parse.Module(right); e != api.OK {
		t.Fatal(e)
	}
}
