package check_test

import (
	"strings"
	"testing"

	"touchstone/api"
	"touchstone/check"
)

// P18.3: sources, with their interfaces and pins.
func TestSource(t *testing.T) {
	r := basics(t)
	want(t, nil, "", "")
	want(t, r, " -- nothing\n", "")
	want(t, nil, "let f = fun x -> x; export f;", "let f : 'a -> 'a = 0;")
	want(t, r, "let x = 1; export x;", "let x : int = 0;")
	want(t, r, "import P = q@1.2.0;", "", "q@1.2.0")
	want(t, r, "import P = q@1.2.0; let x = P.map (fun y -> (y, 1)); let n = P.Nil; export n; export x;", "let n : Q.list('a) = 0; let x : Q.list('a) -> Q.list(('a, int)) = 0;", "q@1.2.0")
	want(t, r, "import B = r@0.1.0; import A = q@1.2.0; let f = fun u -> match u with B.U(l) -> A.map (fun x -> B.n) l end; export f; alias t = A.list(B.u); export g; let g = (A.nil : t);", "let f : R.u -> Q.list(int) = 0; let g : Q.list(R.u) = 0;", "r@0.1.0", "q@1.2.0")
	want(t, r, "type t = A | B(t); let f = fun x -> match x with A -> 0 | B(y) -> f y end; export type t; export f : t -> int;", "type t = A | B(t); let f : t -> int = 0;")
}

// P18.1: pins, in order.
func TestPins(t *testing.T) {
	if got := check.Pins(module(t, "let x = 1;")); len(got) > 0 {
		t.Fatal(got)
	}
	got := check.Pins(module(t, "import B = r@0.1.0; let x = 1; import A = q@1.2.0; import C = a@3.0.0;"))
	if raw(got) != raw([]api.Pin{pin(t, "r@0.1.0"), pin(t, "q@1.2.0"), pin(t, "a@3.0.0")}) {
		t.Fatal(got)
	}
}

// P18.1: interfaces of the releases with a module's pins; of several the first.
func TestDeps(t *testing.T) {
	one, two, three := "let one : int = 0;", "let two : text = 0;", "let three : ('a, R.t) = 0; type t('a) = T('a);"
	releases := some(t, "a@1.0.0 "+one, "a@1.0.1 "+two, "b@1.0.0 "+three, "a@1.0.0 "+two, "b@1.0.0 "+one)
	before := raw(releases)
	wantDeps := func(source string, wanted ...string) {
		t.Helper()
		var l []api.Iface
		for _, s := range wanted {
			l = append(l, iface(t, s))
		}
		if got, there := check.Deps(module(t, source), releases); !there || raw(got) != raw(l) {
			t.Fatalf("%s: %s, %v", source, raw(got), there)
		}
	}
	wantDeps("")
	wantDeps("let x = 1;")
	wantDeps("import A = a@1.0.0;", one)
	wantDeps("import A = a@1.0.1;", two)
	wantDeps("import B = b@1.0.0; import A = a@1.0.0;", three, one)
	wantDeps("import B = b@1.0.0; import A = b@1.0.0; import C = a@1.0.1;", three, three, two)
	for _, s := range []string{"import A = a@1.0.2;", "import A = c@1.0.0;", "import A = a@1.0.0; import B = b@2.0.0;", "import A = a@0.0.0; import B = b@1.0.0;"} {
		if got, there := check.Deps(module(t, s), releases); there || len(got) > 0 {
			t.Fatal(s, raw(got))
		}
	}
	got, _ := check.Deps(module(t, "import B = b@1.0.0; import A = b@1.0.0;"), releases)
	got[0].Vals[0].Type.Kids[0].Name, got[0].Types[0].Params[0], got[0].Types[0].Cons[0].Args[0].Name = "?", "?", "?"
	if raw(releases) != before || got[1].Types[0].Params[0] == "?" || got[1].Vals[0].Type.Kids[0].Name == "?" {
		t.Fatal("what is handed out is shared")
	}
}

// P18.2: a module, against interfaces.
func TestModule(t *testing.T) {
	dep := iface(t, "type list('a) = Cons('a, list('a)) | Nil; let nil : list('a) = 0;")
	m := module(t, "import P = q@1.0.5; type t = T(P.list(t)); let x = T(P.nil); export x; export type t;")
	before := raw(m) + raw(dep)
	got, e := check.Module(m, []api.Iface{dep})
	if e != api.OK || raw(got) != raw(iface(t, "type t = T(Q.list(t)); let x : t = 0;")) || raw(m)+raw(dep) != before {
		t.Fatal(raw(got), e)
	}
	for _, deps := range [][]api.Iface{nil, {dep, dep}} {
		if got, e := check.Module(m, deps); e != api.ErrArg || raw(got) != raw(api.Iface{}) {
			t.Fatal(raw(got), e)
		}
	}
}

// huge has a type of more than MaxType terms.
const huge = "(fun x -> (x, x, x, x)) ((fun x -> (x, x, x, x)) ((fun x -> (x, x, x, x)) ((fun x -> (x, x, x, x)) ((fun x -> (x, x, x, x)) 1))))"

// faults are parts of a source with one error each, in the order in which these are told.
func faults() []struct {
	e    api.Errno
	part string
} {
	ten := "(int" + strings.Repeat(", int", 9) + ")"
	return []struct {
		e    api.Errno
		part string
	}{
		{api.ErrPin, "import Z = none@1.0.0;"},
		{api.ErrTwice, "let d = 1; let d = 1;"}, {api.ErrName, "let n = nowhere;"}, {api.ErrArity, "let a : int(int) = 1;"},
		{api.ErrCycle, "alias c = c;"}, {api.ErrLimit, "alias h1 = " + ten + "; alias h2('a) = (" + strings.Repeat("'a, ", 99) + "'a); let l : h2(h1) = l;"},
		{api.ErrType, "let t = 1 1;"}, {api.ErrLimit, "let i = " + huge + ";"},
		{api.ErrMatch, "let m = match 1 with 1 -> 1 end;"},
		{api.ErrType, "let it = 1; export it : text;"}, {api.ErrEscape, "type es = Es; let ev = Es; export ev;"},
	}
}

// P18.2, P18.3: each step's error alone, and of any two in one source the one whose step comes first.
func TestWhichFirst(t *testing.T) {
	r := basics(t)
	const right = "import P = q@1.2.0; let right = P.nil; export right;"
	wantFault(t, nil, right, 0, api.ErrPin)
	for i, a := range faults() {
		wantFault(t, r, a.part, 0, a.e)
		wantFault(t, r, right+a.part, 0, a.e)
		for _, b := range faults()[i+1:] {
			wantFault(t, r, a.part+b.part, 0, a.e)
			wantFault(t, r, right+b.part+a.part, 0, a.e)
		}
		// What can't be read comes ahead of all, with its byte.
		for _, x := range []string{"let ;", "let x = #;", "let x = 1"} {
			all := right + a.part + x
			at := map[string]int{"let ;": 4, "let x = #;": 8, "let x = 1": 9}[x]
			wantFault(t, r, all, len(all)-len(x)+at, api.ErrForm)
		}
	}
	wantFault(t, r, strings.Repeat(" ", api.MaxSource+1), 0, api.ErrLimit)
	deep := "let x = " + strings.Repeat("(", api.MaxNest)
	wantFault(t, r, deep+"x", len(deep), api.ErrLimit)
}

// P1: what is no module, nor interfaces, ends too.
func TestAnything(t *testing.T) {
	odd := api.Term{Kind: 99, Pkg: "P", Kids: []api.Term{{Kind: api.ExMatch}, {Kind: api.TyCon}, {}}}
	i := api.Iface{Types: []api.TypeDef{{Cons: []api.Con{{Args: []api.Term{odd}}}}, {}}, Vals: []api.Val{{Name: "x", Type: odd}, {}}}
	m := api.Module{Imports: []api.Import{{As: "P"}}, Lets: []api.Let{{Name: "x", Ann: []api.Term{odd}, Body: odd}}, Types: i.Types, Aliases: []api.Alias{{Type: odd}}, Exports: []api.Export{{Name: "x", Ann: []api.Term{odd, odd}}}}
	check.Module(m, []api.Iface{i})
	check.Module(m, nil)
	check.Deps(m, []api.Release{{Iface: i}})
	check.Source("import P = q@1.0.0; let y = P.x; export y;", []api.Release{{Pin: api.Pin{Pkg: "q", Version: api.Version{Major: 1}}, Iface: i}})
}
