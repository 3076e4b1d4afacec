package world_test

import (
	"fmt"
	"math/rand/v2"
	"testing"

	"touchstone/api"
	"touchstone/index"
	"touchstone/world"
)

// someAct is anything that may happen.
func someAct(t *testing.T, d *rand.Rand) api.Act {
	p := pick(d, "a", "b", "c") + "@" + pick(d, "1.0.0", "1.0.1", "1.1.0", "2.0.0", "1.2.0")
	switch d.IntN(12) {
	case 0:
		return fail(d.IntN(12))
	case 1:
		return power(d.IntN(20))
	case 2:
		return crash()
	case 3:
		a := crashAll()
		a.Turns = a.Turns[d.IntN(4) : d.IntN(6)+5]
		for i := range a.Files {
			a.Files[i].Long = d.IntN(2) == 0
			a.Files[i].Sectors = a.Files[i].Sectors[d.IntN(3) : d.IntN(20)+3]
		}
		return a
	case 4:
		return ask(t, "recover")
	case 5:
		return ask(t, pick(d, "fsck", "query "+p, "resolve "+p))
	}
	return ask(t, pick(d, "publish "+p+" "+pick(d, f, g, g, "", "import A = a@1.0.0; let h = A.f; export h;"), "publish "+p+" "+g, "yank "+p, "unyank "+p))
}

// P25.4, P25.5, P25.6: whatever happens a world is true, a crash leaves one that can be opened, and it goes on.
func TestAny(t *testing.T) {
	d := rand.New(rand.NewPCG(25, 4))
	met := map[string]int{}
	for round := range 200 {
		w := fresh(t, pick(d, 4, 40, 300))
		for range 40 {
			a := someAct(t, d)
			before, pending := len(w.Acked()), len(w.Pending())
			answer := w.Step(a)
			met[fmt.Sprint(a.Kind, answer.Err)]++
			if !w.True() || raw(w.Releases()) != told(t, w.Acked()...) || len(w.Pending()) > 1 {
				t.Fatalf("behind %.200s, %s: %s, %s", raw(a), raw(answer), raw(w.Acked()), raw(w.Pending()))
			}
			if a.Kind == api.ActCrash && (answer.Err != api.OK || len(w.Pending()) > 0) {
				t.Fatalf("a crash: %s", raw(answer))
			}
			if n := len(w.Acked()); n > before && pending == 1 {
				met["found"]++
			}
		}
		wantChain(t, w)
		// Behind any crash a release of a package that is not there is published, if there is room.
		step(t, w, pick(d, crash(), crashAll()), api.OK)
		acked := w.Acked()
		s := fmt.Sprintf("publish new%d@0.1.0 %s", round, f)
		if a := w.Step(ask(t, s)); a.Err != api.ErrSpace {
			if a.Err != api.OK {
				t.Fatal(raw(a))
			}
			acked = append(acked, cmd(t, s))
		}
		wantBook(t, w, acked, nil)
	}
	for _, what := range []string{"1 error 0", "1 error 6", "1 error 7", "1 error 20", "1 error 19", "4 error 0", "found"} {
		if met[what] < 3 {
			t.Fatal(met)
		}
	}
}

// wantChain asks that any client that takes a version takes each higher one of its major number.
func wantChain(t *testing.T, w *world.World) {
	t.Helper()
	x := index.New()
	for _, c := range w.Acked() {
		if c.Kind == api.CmdPublish {
			x.Publish(c.Pin, c.Source)
		}
	}
	all := w.Releases()
	for i, a := range all {
		for _, b := range all[i+1:] {
			for _, use := range []string{"P.f 1", "P.g", "P.f \"a\"", "P.h 1", "(P.f, P.f)"} {
				client := func(r api.Release) api.Errno {
					_, e := x.Client(fmt.Sprintf("import P = %s@%d.%d.%d; let w = %s;", r.Pkg, r.Major, r.Minor, r.Patch, use))
					return e
				}
				if a.Pkg == b.Pkg && a.Major == b.Major && client(a) == api.OK && client(b) != api.OK {
					t.Fatalf("%s: %v, not %v", use, a.Pin, b.Pin)
				}
			}
		}
	}
}

// P25.4: the same acts lead to the same.
func TestTwice(t *testing.T) {
	for seed := range uint64(20) {
		var books []string
		for range 2 {
			d := rand.New(rand.NewPCG(25, seed))
			w, _ := world.New(50)
			s := ""
			for range 40 {
				s += raw(w.Step(someAct(t, d)))
			}
			books = append(books, s+raw(w.Acked())+raw(w.Pending())+raw(w.Releases()))
		}
		if books[0] != books[1] {
			t.Fatal("the second time it is another one")
		}
	}
}
