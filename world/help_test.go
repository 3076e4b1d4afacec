package world_test

import (
	"fmt"
	"math/rand/v2"
	"slices"
	"strings"
	"testing"

	"touchstone/api"
	"touchstone/index"
	"touchstone/semver"
	"touchstone/world"
)

// raw is all that is in a thing, as a text; lists that are nil and empty are alike.
func raw(x any) string { return fmt.Sprintf("%+v", x) }

func pin(t *testing.T, s string) api.Pin {
	t.Helper()
	p, e := semver.ParsePin(s)
	if e != api.OK {
		t.Fatalf("%q: %v", s, e)
	}
	return p
}

const (
	f = "let f = fun x -> (x : int); export f;"
	g = "let f = fun x -> x; let g = 1; export f; export g;"
)

// cmd is a command, told by its word, a pin, and what is behind it: a source.
func cmd(t *testing.T, s string) api.Command {
	t.Helper()
	word, rest, _ := strings.Cut(s, " ")
	c := api.Command{Kind: 1 + slices.Index([]string{"publish", "yank", "unyank", "query", "versions", "classify", "client", "resolve", "recover", "fsck"}, word)}
	if first, behind, _ := strings.Cut(rest, " "); first != "" {
		c.Pin, c.Source = pin(t, first), behind
	}
	return c
}

func ask(t *testing.T, s string) api.Act {
	t.Helper()
	return api.Act{Kind: api.ActAsk, Command: cmd(t, s)}
}

func fail(n int) api.Act  { return api.Act{Kind: api.ActFail, N: n} }
func power(n int) api.Act { return api.Act{Kind: api.ActPower, N: n} }
func crash() api.Act      { return api.Act{Kind: api.ActCrash} }

// crashAll leaves all turns, and all of the files that a journal may have.
func crashAll() api.Act {
	a := crash()
	var sectors []int
	for i := range 60 {
		a.Turns, sectors = append(a.Turns, i), append(sectors, i)
	}
	a.Files = []api.Survive{{Name: "manifest", Sectors: sectors, Long: true}, {Name: "manifest.tmp", Sectors: sectors, Long: true}}
	for i := 1; i < 12; i++ {
		a.Files = append(a.Files, api.Survive{Name: fmt.Sprintf("seg-%06d", i), Sectors: sectors, Long: true})
	}
	return a
}

func fresh(t *testing.T, capacity int) *world.World {
	t.Helper()
	w, e := world.New(capacity)
	if e != api.OK || w == nil {
		t.Fatal(e)
	}
	wantBook(t, w, nil, nil)
	return w
}

// told is the releases of an index in which commands were done, in order.
func told(t *testing.T, l ...api.Command) string {
	t.Helper()
	x := index.New()
	for _, c := range l {
		e := api.OK
		if c.Kind == api.CmdPublish {
			_, e = x.Publish(c.Pin, c.Source)
		} else {
			e = x.Yank(c.Pin, c.Kind == api.CmdYank)
		}
		if e != api.OK {
			t.Fatalf("%s: %v", raw(c), e)
		}
	}
	return raw(x.All())
}

// wantBook asks what was answered, and what is under way, and that the world is true to it.
func wantBook(t *testing.T, w *world.World, acked, pending []api.Command) {
	t.Helper()
	if !slices.Equal(w.Acked(), acked) || !slices.Equal(w.Pending(), pending) {
		t.Fatalf("answered %s, under way %s, not %s, %s", raw(w.Acked()), raw(w.Pending()), raw(acked), raw(pending))
	}
	if !w.True() || raw(w.Releases()) != told(t, acked...) {
		t.Fatalf("True %v: %s, not %s", w.True(), raw(w.Releases()), told(t, acked...))
	}
}

func step(t *testing.T, w *world.World, a api.Act, wanted api.Errno) {
	t.Helper()
	if got := w.Step(a); raw(got) != raw(api.Answer{Err: wanted}) {
		t.Fatalf("%.200s: %s, not %v", raw(a), raw(got), wanted)
	}
}

func pick[T any](d *rand.Rand, l ...T) T { return l[d.IntN(len(l))] }

func cmds(t *testing.T, l ...string) []api.Command {
	t.Helper()
	var c []api.Command
	for _, s := range l {
		c = append(c, cmd(t, s))
	}
	return c
}
