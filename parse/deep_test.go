package parse_test

import (
	"strings"
	"testing"

	"touchstone/api"
)

// around is what stands ahead of a thing that lies one deeper, and behind it; a mark is ahead of the first thing that does, if that is another one.
type around struct{ ahead, behind string }

func (x around) times(n int, s string) string {
	return strings.Repeat(strings.ReplaceAll(x.ahead, "!", ""), n) + s + strings.Repeat(x.behind, n)
}

// exprsAround lie around an expression.
var exprsAround = []around{
	{"(", ")"}, {"(", ", x)"}, {"(!x, ", ")"}, {"(!x, y, ", ", z)"}, {"(", " : int)"},
	{"fun x -> ", ""}, {"let x = ", " in x"}, {"let x = !x in ", ""}, {"let rec x = ", " in x"}, {"let rec x = !x in ", ""}, {"let x : !int = ", " in x"},
	{"match ", " with _ -> x end"}, {"match !x with _ -> ", " end"}, {"match !x with _ -> ", " | _ -> x end"}, {"match !x with _ -> x | a -> ", " end"},
	{"A(", ")"}, {"A(!x, ", ")"}, {"A(", ", x)"}, {"P.A(", ")"}, {"f (", ")"}, {"f x (", ") y"}, {"f A(", ")"}, {"1 (", ", 2) 3"},
}

var typesAround = []around{{"(", ")"}, {"(", ", int)"}, {"(!int, ", ")"}, {"t(", ")"}, {"t(!int, ", ", int)"}, {"P.t(", ")"}, {"int -> ", ""}, {"P.t -> ", ""}, {"() -> ", ""}, {"(!int, int) -> ", ""}, {"(", ") -> int"}}

var patsAround = []around{{"(", ")"}, {"(", ", _)"}, {"(!_, ", ")"}, {"A(", ")"}, {"A(!_, ", ", x)"}, {"P.A(", ")"}}

// wantDeep puts a thing into others, which stand between head and tail, where its place is at depth so deep. It lies at MaxNest at the most.
func wantDeep(t *testing.T, read reader, depth int, head string, x around, thing, tail string) {
	t.Helper()
	n := api.MaxNest - depth
	wantRead(t, read, head+x.times(n, thing)+tail, head+x.times(n-1, thing)+tail)
	ahead := head + strings.Repeat(strings.ReplaceAll(x.ahead, "!", ""), n)
	opening, rest, marked := strings.Cut(x.ahead, "!")
	if !marked {
		rest = thing
	}
	wantLimit(t, read, ahead+opening+"!", ahead+opening+" \n!"+rest, ahead+opening+"!"+rest+thing+tail)
	all := head + x.times(n+1, thing) + tail
	wantFault(t, read, all, len(ahead+opening), api.ErrLimit)
}

// P8.1, P8.2: expressions at MaxNest, and one deeper, by each thing that may be around one.
func TestDeepExprs(t *testing.T) {
	for _, x := range exprsAround {
		for _, thing := range []string{"x", "1", "A", "()", "\"a\"", "P.x", "f x y", "f 1 2 3"} {
			wantDeep(t, readExpr, 1, "", x, thing, "")
			wantDeep(t, readModule, 1, "let x = ", x, thing, ";")
			wantDeep(t, readModule, 1, "let y = 1; let x : int -> int = ", x, thing, "; export x;")
		}
		wantDeep(t, readExpr, 2, "(", x, "x", ")")
		wantDeep(t, readExpr, 3, "fun x -> (x, ", x, "x", ")")
	}
}

// P8.1, P8.2: types, of items and in expressions.
func TestDeepTypes(t *testing.T) {
	for _, x := range typesAround {
		for _, thing := range []string{"'a", "int", "P.t", "()"} {
			wantDeep(t, readType, 1, "", x, thing, "")
			wantDeep(t, readModule, 1, "alias t = ", x, thing, ";")
			wantDeep(t, readModule, 1, "type t = A | B(int, ", x, thing, ") | C;")
			wantDeep(t, readModule, 1, "let x : ", x, thing, " = 1;")
			wantDeep(t, readModule, 1, "export x : ", x, thing, ";")
			wantDeep(t, readExpr, 2, "(x : ", x, thing, ")")
			wantDeep(t, readExpr, 2, "let x : ", x, thing, " = x in x")
			wantDeep(t, readExpr, 4, "fun x -> (let rec x : ", x, thing, " = x in x)")
		}
	}
}

// P8.1, P8.2: patterns, which lie one deeper than their match.
func TestDeepPats(t *testing.T) {
	for _, x := range patsAround {
		for _, thing := range []string{"_", "x", "1", "\"a\"", "A", "P.A", "()"} {
			wantDeep(t, readExpr, 2, "match x with ", x, thing, " -> x end")
			wantDeep(t, readExpr, 2, "match x with _ -> x | ", x, thing, " -> x end")
			wantDeep(t, readExpr, 3, "(match x with ", x, thing, " -> x end)")
			wantDeep(t, readModule, 4, "let x = fun x -> fun x -> match x with ", x, thing, " -> x end;")
		}
	}
}

// P8.1: where nothing need begin, nothing lies too deep; else it does whatever the token is, also where none could stand.
func TestDeepestTokens(t *testing.T) {
	deepest := strings.Repeat("(", api.MaxNest)
	closed := strings.Repeat(")", api.MaxNest-1)
	wantRead(t, readExpr, deepest+")"+closed)
	wantRead(t, readType, deepest+")"+closed)
	wantRead(t, readExpr, "match x with "+deepest[1:]+")"+closed[1:]+" -> x end")
	inner := deepest[1:]
	for _, s := range []string{"x", "'a", "1", "\"a\"", "A", "1.0.0", "let", "fun", "match", "in", "end", ";", ",", ":", "=", "->", "|", "_", ".", "@", "(", "rec", "type"} {
		wantLimit(t, readExpr, deepest+"!"+s, "match x with "+inner+"!"+s, "(x : "+inner+"!"+s)
		wantLimit(t, readType, deepest+"!"+s)
		wantLimit(t, readModule, "let x = "+deepest+"!"+s, "alias t = "+deepest+"!"+s)
	}
	for _, s := range []string{")", "x", ";", "(", ""} {
		wantLimit(t, readExpr, inner+"A(!"+s, inner+"P.A(!"+s, inner+"fun x -> !"+s, inner+"match !"+s, inner+"let x = !"+s, inner+"let x : !"+s, inner+"let rec x = !"+s)
		wantLimit(t, readType, inner+"t(!"+s, inner+"P.t(!"+s, inner+"int -> !"+s, inner+"() -> !"+s)
		wantLimit(t, readExpr, "match x with "+inner[1:]+"A(!"+s)
	}
	for _, s := range []string{"fun !1", "fun !(", "fun x !(", "let !1", "let x !in", "let !", "fun !", "!;", "!->", "!", "A !;", "P.!(", "x !; 1", "!="} {
		wantForm(t, readExpr, inner+s)
	}
	wantForm(t, readType, inner+"!1", inner+"P!(", inner+"t !t", inner+"!")
	wantLimit(t, readExpr, inner+"(!"+strings.Repeat("(", 1000), strings.Repeat("(", api.MaxNest)+"!"+strings.Repeat("x ", 2000))
}

// P8.1: what lies deep in one place does not count in another one.
func TestDeepBeside(t *testing.T) {
	n := api.MaxNest - 2
	x := strings.Repeat("(", n) + "x" + strings.Repeat(")", n)
	ty := strings.Repeat("(", n) + "int" + strings.Repeat(")", n)
	wantRead(t, readExpr, "f ("+x+") ("+x+")", "("+x+","+x+")", "let x : "+ty+" = "+x+" in "+x, "match "+x+" with "+x+" -> "+x+" | "+x+" -> "+x+" end", "("+x+" : "+ty+")", "A("+x+","+x+")")
	wantRead(t, readType, "("+ty+", "+ty+") -> "+ty, "t("+ty+","+ty+")")
	wantRead(t, readModule, "let x : "+ty+" = "+x+"; let x = "+x+"; type t = A("+ty+","+ty+") | B("+ty+"); export x : "+ty+";")
}

// P8.1, P8.2: MaxArgs atoms that one is applied to, and one more, of each kind.
func TestArgs(t *testing.T) {
	args := func(n int, s string) string { return strings.Repeat(" "+s, n) }
	const most = api.MaxArgs
	for _, s := range []string{"x", "1", "\"a\"", "A", "P.x", "P.A", "()", "(x)", "A(x)", "(x, y)", "(x : int)"} {
		for _, f := range []string{"f", "1", "\"a\"", "F", "P.f", "(f)", "A(x)", "(fun x -> x)", "(f" + args(most, "x") + ")"} {
			if f == "F" && s[0] == '(' {
				continue
			}
			full := f + args(most, s)
			wantRead(t, readExpr, full, full[:len(full)-len(s)-1])
			wantLimit(t, readExpr, full+" !"+s, full+"\n !"+s+" "+s, full+"\n!"+s+" ;")
			wantForm(t, readExpr, full+" !;", full+" !fun x -> x", full+" !_", full+" !)", full+" !'a", full+" !1.0.0", full+" !->")
		}
	}
	full := "f" + args(most, "x")
	wantLimit(t, readExpr, full+" !(", full+" !P", full+" !P.", full+" !(x", full+" !A(")
	wantRead(t, readExpr, "("+full+") ("+full+")", "("+full+")"+args(most, "("+full+")"), "fun x -> "+full, "let x = "+full+" in "+full, "match "+full+" with _ -> "+full+" end", "("+full+", "+full+")", "("+full+" : int)", "A("+full+")")
	wantLimit(t, readExpr, "("+full+" !x)", "fun x -> "+full+" !x", "let x = "+full+" !x in x", "f ("+full+") ("+full+" !1)", "A("+full+" !A)", "match x with _ -> "+full+" !(x) end")
	wantLimit(t, readModule, "let x = "+full+" !x;", "let x = 1; let x = "+full+" !\"a\"")
	wantRead(t, readModule, "let x = "+full+"; let y = "+full+";")
}
