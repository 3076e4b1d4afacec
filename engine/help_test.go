package engine_test

import (
	"fmt"
	"math/rand/v2"
	"slices"
	"strings"
	"testing"

	"touchstone/api"
	"touchstone/command"
	"touchstone/engine"
	"touchstone/index"
	"touchstone/semver"
	"touchstone/vfs"
)

// raw is all that is in a thing, as a text; lists that are nil and empty are alike.
func raw(x any) string { return fmt.Sprintf("%+v", x) }

func pin(t *testing.T, s string) api.Pin {
	t.Helper()
	p, e := semver.ParsePin(s)
	if e != api.OK {
		t.Fatalf("%q: %v", s, e)
	}
	return p
}

func pins(t *testing.T, s string) []api.Pin {
	t.Helper()
	var l []api.Pin
	for _, x := range strings.Fields(s) {
		l = append(l, pin(t, x))
	}
	return l
}

// cmd is a command, told by its word, a pin, and what is behind it: another pin, or a source.
func cmd(t *testing.T, s string) api.Command {
	t.Helper()
	word, rest, _ := strings.Cut(s, " ")
	c := api.Command{Kind: 1 + slices.Index([]string{"publish", "yank", "unyank", "query", "versions", "classify", "client", "resolve", "recover", "fsck"}, word)}
	first, behind, _ := strings.Cut(rest, " ")
	switch word {
	case "publish":
		c.Pin, c.Source = pin(t, first), behind
	case "classify":
		c.Pin, c.Other = pin(t, first), pin(t, behind)
	case "versions":
		c.Pin.Pkg = first
	case "client":
		c.Source = rest
	case "recover", "fsck":
	default:
		c.Pin = pin(t, first)
	}
	return c
}

func open(t *testing.T, fs *vfs.FS) *engine.Engine {
	t.Helper()
	g, e := engine.Open(fs)
	if e != api.OK {
		t.Fatalf("Open: %v", e)
	}
	return g
}

// some is an engine to which commands were given, all of which are answered without an error; and its store.
func some(t *testing.T, l ...string) (*engine.Engine, *vfs.FS) {
	t.Helper()
	fs, _ := vfs.New(500)
	if e := engine.Format(fs); e != api.OK {
		t.Fatal(e)
	}
	g := open(t, fs)
	for _, s := range l {
		want(t, g, s, api.Answer{})
	}
	return g, fs
}

// look is all that can be looked at in an engine.
func look(g *engine.Engine) string {
	return raw(g.All()) + fmt.Sprint(g.Records(), g.Stopped())
}

// want asks for an answer, by Ask and by Do; of commands that look, that nothing is changed.
func want(t *testing.T, g *engine.Engine, s string, wanted api.Answer) {
	t.Helper()
	c := cmd(t, s)
	before := look(g)
	if got := g.Ask(c); raw(got) != raw(wanted) {
		t.Fatalf("%s: %s, not %s", s, raw(got), raw(wanted))
	}
	if (!command.Mutates(c.Kind) && c.Kind != api.CmdRecover || wanted.Err != api.OK && wanted.Err != api.ErrIO && wanted.Err != api.ErrPower) && look(g) != before {
		t.Fatalf("%s: something is changed", s)
	}
	if command.Mutates(c.Kind) && wanted.Err == api.OK {
		return
	}
	bytes, _ := command.Encode(c)
	if got := g.Do(bytes); wanted.Err != api.ErrIO && wanted.Err != api.ErrPower && got != command.Told(wanted) {
		t.Fatalf("%s: Do %q", s, got)
	}
}

func wantErr(t *testing.T, g *engine.Engine, wanted api.Errno, l ...string) {
	t.Helper()
	for _, s := range l {
		want(t, g, s, api.Answer{Err: wanted})
	}
}

// told is the releases of an index in which commands were done, in order.
func told(t *testing.T, l ...api.Command) string {
	t.Helper()
	x := index.New()
	for _, c := range l {
		e := api.OK
		if c.Kind == api.CmdPublish {
			_, e = x.Publish(c.Pin, c.Source)
		} else {
			e = x.Yank(c.Pin, c.Kind == api.CmdYank)
		}
		if e != api.OK {
			t.Fatalf("%s: %v", raw(c), e)
		}
	}
	return raw(x.All())
}

// all is all turns that a crash may leave, and all sectors and lengths of all files.
func all(fs *vfs.FS) ([]int, []api.Survive) {
	var turns, sectors []int
	for i := range 60 {
		turns, sectors = append(turns, i), append(sectors, i)
	}
	var files []api.Survive
	for _, name := range fs.Names() {
		files = append(files, api.Survive{Name: name, Sectors: sectors, Long: true})
	}
	return turns, files
}

// someCrash is any of what a crash may leave.
func someCrash(d *rand.Rand, fs *vfs.FS) *vfs.FS {
	turns, files := all(fs)
	if d.IntN(4) == 0 {
		return fs.Crash(nil)
	}
	turns = slices.DeleteFunc(turns, func(int) bool { return d.IntN(2) == 0 })
	for i := range files {
		files[i].Long = d.IntN(2) == 0
		files[i].Sectors = slices.DeleteFunc(slices.Clone(files[i].Sectors), func(int) bool { return d.IntN(3) == 0 })
	}
	return fs.Crash(turns, files...)
}

func pick[T any](d *rand.Rand, l ...T) T { return l[d.IntN(len(l))] }
