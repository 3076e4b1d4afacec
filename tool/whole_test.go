package tool_test

import (
	"fmt"
	"math/rand/v2"
	"slices"
	"strings"
	"testing"

	"touchstone/api"
	"touchstone/check"
	"touchstone/compat"
	"touchstone/eval"
	"touchstone/expand"
	"touchstone/index"
	"touchstone/infer"
	"touchstone/parse"
	"touchstone/print"
	"touchstone/resolve"
	"touchstone/scope"
	"touchstone/semver"
	"touchstone/tool"
	"touchstone/witness"
	"touchstone/world"
)

// publish is the lines that publish a source.
func publish(pin, source string) string { return "publish " + pin + " << E\n" + source + "\nE\n" }

func client(source string) string { return "client << E\n" + source + "\nE\n" }

// The document's first example, through all layers.
func TestFirstExample(t *testing.T) {
	const f, fg = "let f = 1; export f;", "let f = 1; let g = 2; export f; export g;"
	wantRun(t, publish("a@1.0.0", f)+publish("a@1.0.1", f)+publish("a@1.0.2", fg)+publish("a@1.1.0", fg)+publish("a@1.2.0", "")+publish("a@2.0.0", "")+"versions a\n",
		"ok", "ok",
		"error 19", "gap 2", "text 33", "import P = a@1.0.2;", "let w = P.g;", "",
		"ok",
		"error 19", "gap 3", "change 1 f", "text 33", "import P = a@1.2.0;", "let w = P.f;", "",
		"ok", "ok", "pin a@1.0.0", "pin a@1.0.1", "pin a@1.1.0", "pin a@2.0.0")
}

// The document's second example.
func TestSecondExample(t *testing.T) {
	wantRun(t, publish("a@1.0.0", "let f = 1; export f;")+publish("b@1.0.0", "import A = a@1.0.0; let x = A.f; export x;")+publish("a@1.1.0", "let f = 1; let g = 2; export f; export g;")+"resolve b@1.0.0\n"+client("import A = a@1.0.0; let x = A.f;")+client("import A = a@1.1.0; let x = A.f;")+client("import A = a@1.0.0; let x = A.g;")+"yank a@1.1.0\nresolve b@1.0.0\nyank a@1.0.0\nresolve b@1.0.0\n",
		"ok", "ok", "ok", "ok", "pin a@1.1.0", "ok", "ok", "error 12", "ok", "ok", "pin a@1.0.0", "ok", "error 21")
}

// sources are such of one package whose interfaces differ.
func sources() []string {
	return []string{
		"", "let f = fun x -> (x : int); export f;", "let f = fun x -> x; export f;", "let f = fun x -> x; let g = 1; export f; export g;", "type t('a) = A('a) | B; let f = fun x -> x; let g = A(1); export f; export g; export type t;", "type t('a) = A('a) | B | C; let f = fun x -> x; let g = A(1); export f; export g; export type t;", "type t('a) = A(int) | B; let f = fun x -> x; export f; export type t;", "type t = A(int) | B; let f = fun x -> A(x); export f; export type t;",
		"let f = ;", "let f = 1 1; export f;", "import P = none@1.0.0;", "let f = match 1 with 1 -> 2 end;", "type t = A; let f = A; export f;", "export f;",
	}
}

func versions() []api.Version {
	var l []api.Version
	for i := range 12 {
		l = append(l, api.Version{Major: 1 + i/8, Minor: i / 2 % 4, Patch: i % 2 * 3})
	}
	return l
}

// P0.1, P0.2: what is published just is what is checked, fresh, and allowed by its neighbours; what is refused by its version comes with a client that shows it.
func TestPublished(t *testing.T) {
	d := rand.New(rand.NewPCG(0, 1))
	taken, refused := 0, 0
	for range 60 {
		w, _ := world.New(300)
		for range 20 {
			p := api.Pin{Pkg: "a", Version: pick(d, versions()...)}
			source := pick(d, sources()...)
			releases := w.Releases()
			i, _, at, e := check.Source(source, releases)
			fresh := !slices.ContainsFunc(releases, func(r api.Release) bool { return r.Pin == p })
			clash, apart := allows(releases, p, i)
			answer := w.Step(ask(api.CmdPublish, p, source))
			right := e == api.OK && fresh && !clash
			if right != (answer.Err == api.OK) || fresh && e != api.OK && (answer.Err != e || answer.At != at) {
				t.Fatalf("%v %s: %s; %v, fresh %v, clash %v", p, source, raw(answer), e, fresh, clash)
			}
			if right {
				taken++
				r := w.Releases()[slices.IndexFunc(w.Releases(), func(r api.Release) bool { return r.Pin == p })]
				if raw(r.Iface) != raw(i) || r.Source != source {
					t.Fatalf("%v: %s, not %s", p, raw(r), raw(i))
				}
			}
			if answer.Err == api.ErrLabel {
				refused++
				wantShown(t, answer, p, apart)
			}
		}
	}
	if taken < 100 || refused < 100 {
		t.Fatal(taken, refused)
	}
}

// allows tells whether an interface clashes with the nearest ones below and above, and with which: the lower one, then the higher one.
func allows(releases []api.Release, p api.Pin, i api.Iface) (bool, [2]api.Iface) {
	var below, above *api.Release
	for n, r := range releases { // these rise
		if r.Major != p.Major || r.Pin == p {
			continue
		}
		if semver.Compare(r.Version, p.Version) < 0 {
			below = &releases[n]
		} else if above == nil {
			above = &releases[n]
		}
	}
	if below != nil && !compat.Allows(semver.Gap(below.Version, p.Version), below.Iface, i) {
		return true, [2]api.Iface{below.Iface, i}
	}
	if above != nil && !compat.Allows(semver.Gap(p.Version, above.Version), i, above.Iface) {
		return true, [2]api.Iface{i, above.Iface}
	}
	return false, [2]api.Iface{}
}

// wantShown asks that the client of an answer is checked with just one of two interfaces at the pin.
func wantShown(t *testing.T, a api.Answer, p api.Pin, apart [2]api.Iface) {
	t.Helper()
	var with []bool
	for _, i := range apart {
		_, _, _, e := check.Source(a.Text, []api.Release{{Pin: p, Iface: i}})
		with = append(with, e == api.OK)
	}
	if with[0] == with[1] || a.Gap != compat.Classify(apart[0], apart[1]) {
		t.Fatalf("%v: %s parts nothing: %v", p, raw(a), with)
	}
	if text, _, e := witness.Both(apart[0], apart[1], p, nil); e != api.OK || text != a.Text {
		t.Fatalf("%v: %s, not %s", p, a.Text, text)
	}
}

// P0.3: whenever the power goes, or the store fails, what was answered is there, in order, and at most what was under way.
func TestKept(t *testing.T) {
	for _, kind := range []string{"fail", "power"} {
		for n := range 14 {
			for _, turns := range []string{"", " 0", " 0 1", " 0 1 2 3 4"} {
				s := publish("a@1.0.0", "let f = 1; export f;") + fmt.Sprintf("%s %d\n", kind, n) + publish("a@1.0.1", "let f = 2; export f;") + "crash" + turns + "\nversions a\n"
				got, _, e := tool.Run(100, s)
				if e != api.OK {
					t.Fatal(e)
				}
				lines := strings.Split(strings.TrimSuffix(got, "\n"), "\n")
				kept := strings.Join(lines[4:], "\n")
				one, both := "ok\npin a@1.0.0", "ok\npin a@1.0.0\npin a@1.0.1"
				if lines[0] != "ok" || lines[1] != "ok" || lines[3] != "ok" || kept != both && (lines[2] == "ok" || kept != one) {
					t.Fatalf("%s\n%s", s, got)
				}
			}
		}
	}
}

// P0.4: printed, or with its items in another order, a source has the same interface; a script shows the same each time.
func TestSame(t *testing.T) {
	d := rand.New(rand.NewPCG(0, 4))
	for _, source := range sources()[:8] {
		m, _, _ := parse.Module(source)
		wanted, _, _, e := check.Source(source, nil)
		if e != api.OK {
			t.Fatal(source, e)
		}
		for range 10 {
			d.Shuffle(len(m.Lets), func(i, j int) { m.Lets[i], m.Lets[j] = m.Lets[j], m.Lets[i] })
			d.Shuffle(len(m.Exports), func(i, j int) { m.Exports[i], m.Exports[j] = m.Exports[j], m.Exports[i] })
			for i := range m.Types {
				d.Shuffle(len(m.Types[i].Cons), func(a, b int) {
					m.Types[i].Cons[a], m.Types[i].Cons[b] = m.Types[i].Cons[b], m.Types[i].Cons[a]
				})
			}
			printed, e := print.Module(m)
			if got, _, _, err := check.Source(printed, nil); e != api.OK || err != api.OK || raw(got) != raw(wanted) {
				t.Fatalf("%s: %s, %v, %v", printed, raw(got), e, err)
			}
		}
	}
	s := publish("a@1.0.0", sources()[4]) + publish("a@1.0.1", sources()[5]) + publish("b@1.0.0", "import A = a@1.0.0; let x = A.g; export x;") + "query b@1.0.0\nversions a\nfail 1\nyank a@1.0.0\nrecover\nfsck\n"
	first, _, _ := tool.Run(50, s)
	for range 20 {
		if again, _, e := tool.Run(50, s); e != api.OK || again != first {
			t.Fatalf("%s, then %s", first, again)
		}
	}
}

// P0.5: what is checked has the types that one expects, and comes to values of these types, never stuck.
func TestTypes(t *testing.T) {
	const source = "type list('a) = Nil | Cons('a, list('a)); type tree('a) = Leaf | Node(tree('a), 'a, tree('a)); alias pairs('a, 'b) = list(('a, 'b)); " +
		"let map = fun f -> fun l -> match l with Nil -> Nil | Cons(x, r) -> Cons(f x, map f r) end; let append = fun a -> fun b -> match a with Nil -> b | Cons(x, r) -> Cons(x, append r b) end; " +
		"let flat = fun t -> match t with Leaf -> Nil | Node(l, x, r) -> append (flat l) (Cons(x, flat r)) end; let zip : list('a) -> list('b) -> pairs('a, 'b) = fun a -> fun b -> match (a, b) with (Cons(x, r), Cons(y, s)) -> Cons((x, y), zip r s) | _ -> Nil end; " +
		"let even = fun l -> match l with Nil -> \"even\" | Cons(_, r) -> odd r end; let odd = fun l -> match l with Nil -> \"odd\" | Cons(_, r) -> even r end; " +
		"let nums = Cons(1, Cons(2, Cons(3, Nil))); let t = Node(Node(Leaf, 1, Leaf), 2, Leaf); " +
		"let result = (map (fun x -> (x, \"a\")) nums, flat t, zip nums (flat t), even nums);"
	m, _, _ := parse.Module(source)
	if _, e := check.Module(m, nil); e != api.OK {
		t.Fatal(e)
	}
	r, _ := scope.Resolve(m, nil)
	r, _ = expand.Module(r)
	vals, e := infer.Module(r, nil)
	if e != api.OK {
		t.Fatal(e)
	}
	for _, v := range vals {
		wanted := map[string]string{"map": "('a -> 'b) -> list('a) -> list('b)", "append": "list('a) -> list('a) -> list('a)", "flat": "tree('a) -> list('a)", "zip": "list('a) -> list('b) -> list(('a, 'b))", "even": "list('a) -> text", "odd": "list('a) -> text", "nums": "list(int)", "t": "tree(int)", "result": "(list((int, text)), list(int), list((int, int)), text)"}[v.Name]
		if got := print.Type(v.Type); got != wanted {
			t.Fatalf("%s: %s, not %s", v.Name, got, wanted)
		}
	}
	v, _, e := eval.Eval(r, api.Term{Kind: api.ExVar, Name: "result"}, api.MaxEval)
	if got := print.Pat(v); e != api.OK || got != "(Cons((1, \"a\"), Cons((2, \"a\"), Cons((3, \"a\"), Nil))), Cons(1, Cons(2, Nil)), Cons((1, 1), Cons((2, 2), Nil)), \"odd\")" {
		t.Fatal(got, e)
	}
}

// P0.6: the greatest versions that are not yanked are chosen, and what was released holds with them.
func TestChosen(t *testing.T) {
	d := rand.New(rand.NewPCG(0, 6))
	chosen := 0
	for range 40 {
		x := index.New()
		for range 40 {
			all := x.All()
			p := api.Pin{Pkg: pick(d, "a", "b", "c", "e"), Version: pick(d, versions()...)}
			source := pick(d, sources()[1:5]...)
			for _, as := range []string{"P", "Q"} {
				if len(all) > 0 && d.IntN(2) == 0 {
					r := pick(d, all...)
					source += fmt.Sprintf(" import %s = %s@%s; let use%s = %s.f 1;", as, r.Pkg, semver.Print(r.Version), as, as)
				}
			}
			x.Publish(p, source)
		}
		for _, r := range x.All() {
			if d.IntN(5) == 0 {
				x.Yank(r.Pin, true)
			}
		}
		for _, r := range x.All() {
			l, e := resolve.Resolve(x, r.Pin)
			if e != api.OK {
				continue
			}
			chosen += len(l)
			if holds, e := resolve.Holds(x, r.Pin, l); !holds || e != api.OK {
				t.Fatalf("%v with %v: %v, %v", r.Pin, l, holds, e)
			}
			for _, c := range l {
				for _, o := range x.All() {
					if o.Pkg == c.Pkg && o.Major == c.Major && (semver.Compare(o.Version, c.Version) > 0 && !o.Yanked || o.Pin == c && o.Yanked) {
						t.Fatalf("%v: %v is chosen, with %v there", r.Pin, c, o.Pin)
					}
				}
			}
		}
	}
	if chosen < 200 {
		t.Fatal(chosen)
	}
}
