package print_test

import (
	"math/rand/v2"
	"strings"
	"testing"

	"touchstone/api"
	"touchstone/parse"
	"touchstone/print"
)

// P9.3: parse.Module of Module's text is the module; parse.Type and parse.Expr likewise.
func TestBack(t *testing.T) {
	d := rand.New(rand.NewPCG(9, 4))
	for range 3000 {
		wantBack(t, someModule(d))
		ty, e := someType(d, 5), someExpr(d, 5)
		if got, at, err := parse.Type(print.Type(ty)); raw(got) != raw(ty) || at != 0 || err != api.OK {
			t.Fatalf("%q is read as %s, %d, %v", print.Type(ty), raw(got), at, err)
		}
		if got, at, err := parse.Expr(print.Expr(e)); raw(got) != raw(e) || at != 0 || err != api.OK {
			t.Fatalf("%q is read as %s, %d, %v", print.Expr(e), raw(got), at, err)
		}
		p := somePat(d, 3)
		if got, _, err := parse.Expr("match x with " + print.Pat(p) + " -> x end"); err != api.OK || raw(got.Kids[1]) != raw(p) {
			t.Fatalf("%q is read as %s, %v", print.Pat(p), raw(got), err)
		}
	}
}

// P9.3: terms of any depth are read again, or lie too deep; nothing else is told of them.
func TestBackDeep(t *testing.T) {
	d := rand.New(rand.NewPCG(9, 5))
	limits, back := 0, 0
	for range 2000 {
		e, ty := ev("x"), tv("a")
		for range d.IntN(50) {
			e = pick(d, fun("x", e), apply(e, ev("x")), apply(ev("x"), e), let("x", e, ev("y")), rec(let("x", ev("y"), e, ty)), match(e, pa(), ev("x")), match(ev("x"), pv("x"), e), et(e, et()), ec("A", e), ann(e, tt()), apply(ec("A"), e))
			ty = pick(d, arrow(ty, tt()), arrow(tt(), ty), tc("t", ty), tt(ty, tc("int")))
		}
		got, _, err := parse.Expr(print.Expr(e))
		gotType, _, errType := parse.Type(print.Type(ty))
		for _, x := range []struct {
			err         api.Errno
			got, wanted api.Term
		}{{err, got, e}, {errType, gotType, ty}} {
			switch {
			case x.err == api.ErrLimit:
				limits++
			case x.err == api.OK && raw(x.got) == raw(x.wanted):
				back++
			default:
				t.Fatalf("%.300s, %v", raw(x.wanted), x.err)
			}
		}
	}
	if limits < 300 || back < 1000 {
		t.Fatalf("%d limits, %d back", limits, back)
	}
}

// wantAgain asks P9.4 of a source: what is read has a text, is read from that as it was, and told so again.
func wantAgain(t *testing.T, s string) {
	t.Helper()
	m, at, e := parse.Module(s)
	if at != 0 || e != api.OK {
		t.Fatalf("%.300q: %d, %v", s, at, e)
	}
	if !print.Right(m) {
		t.Fatalf("%.300q is read as %.300s, which is not right", s, raw(m))
	}
	wantBack(t, m)
	first, _ := print.Module(m)
	again, _, _ := parse.Module(first)
	second, e := print.Module(again)
	if second != first || e != api.OK {
		t.Fatalf("%.300q, then %.300q, %v", first, second, e)
	}
}

// P9.4: of sources as people write them.
func TestAgain(t *testing.T) {
	for _, s := range []string{
		"", "-- nothing", "let x=1;", "export x;let x=((1));import P=a@1.0.0;", "type t('a)=A('a,(int))|B;", "alias p('a)=(('a)->(('a)));",
		"let f = fun x->(x);let g=(f)(f x)A(1)(A)P.B;export g:((int));", "let x = f A B (C) P.D (fun x -> x) (let x = 1 in x) (match x with (_)->((x)) end);",
		"let y : (int, ()) = match (x, ()) with (a, ()) -> a | (((b)), _) -> (b : (int)) end;", "let z = \"\\n\\t\\\\\\\"\" -1 \"\";", "let k = A (x) (y);",
	} {
		wantAgain(t, s)
	}
}

// P9.4: of modules' texts, with blanks, remarks and parentheses put into them.
func TestAgainAny(t *testing.T) {
	d := rand.New(rand.NewPCG(9, 6))
	for range 2000 {
		m := someModule(d)
		s := strings.NewReplacer(" = ", pick(d, "=", "\n=\t", " = "), ", ", pick(d, ",", " , ", ",\n"), "(x)", "((x))", ";\n", pick(d, ";", " ;\n", "; -- a \"\n")).Replace(toldModule(m))
		if strings.Contains(s, "\\") {
			s = toldModule(m)
		}
		wantAgain(t, s)
		got, _, _ := parse.Module(s)
		if raw(got) != raw(m) {
			t.Fatalf("%q is read as %s, not %s", s, raw(got), raw(m))
		}
		for _, x := range m.Lets {
			e, _, _ := parse.Expr(print.Expr(x.Body))
			wantText(t, print.Expr(e), print.Expr(x.Body))
		}
		for _, x := range m.Aliases {
			ty, _, _ := parse.Type(print.Type(x.Type))
			wantText(t, print.Type(ty), print.Type(x.Type))
		}
	}
}
