package tool_test

import (
	"fmt"
	"math/rand/v2"
	"strings"
	"testing"

	"touchstone/api"
	"touchstone/tool"
)

// raw is all that is in a thing, as a text; lists that are nil and empty are alike.
func raw(x any) string { return fmt.Sprintf("%+v", x) }

func pin(pkg string, major, minor, patch int) api.Pin {
	return api.Pin{Pkg: pkg, Version: api.Version{Major: major, Minor: minor, Patch: patch}}
}

func ask(kind int, p api.Pin, source string) api.Act {
	return api.Act{Kind: api.ActAsk, Command: api.Command{Kind: kind, Pin: p, Source: source}}
}

func classify(a, b api.Pin) api.Act {
	return api.Act{Kind: api.ActAsk, Command: api.Command{Kind: api.CmdClassify, Pin: a, Other: b}}
}

func numbered(kind, n int) api.Act { return api.Act{Kind: kind, N: n} }
func crash(turns ...int) api.Act   { return api.Act{Kind: api.ActCrash, Turns: turns} }

// want asks for the acts of a script.
func want(t *testing.T, s string, wanted ...api.Act) {
	t.Helper()
	if got, at, e := tool.Parse(s); e != api.OK || at != 0 || raw(got) != raw(wanted) {
		t.Fatalf("%.300q: %.500s, %d, %v, not %.500s", s, raw(got), at, e, raw(wanted))
	}
}

// wantFault asks for an error, of Parse and of Run, and nothing beside it.
func wantFault(t *testing.T, s string, line int, wanted api.Errno) {
	t.Helper()
	if got, at, e := tool.Parse(s); e != wanted || at != line || len(got) > 0 {
		t.Fatalf("%.300q: %.300s, %d, %v, not %d, %v", s, raw(got), at, e, line, wanted)
	}
	for _, capacity := range []int{40, 0} {
		if got, at, e := tool.Run(capacity, s); e != wanted || at != line || got != "" {
			t.Fatalf("%.300q: Run %.300q, %d, %v, not %d, %v", s, got, at, e, line, wanted)
		}
	}
}

func wantForm(t *testing.T, l ...string) {
	t.Helper()
	for _, s := range l {
		wantFault(t, s, 1, api.ErrForm)
		wantFault(t, s+"\n", 1, api.ErrForm)
		wantFault(t, "recover\n# x\n\n"+s+"\nnonsense\n", 4, api.ErrForm)
	}
}

// wantTold asks for a script of acts, which are read from it again.
func wantTold(t *testing.T, wanted string, l ...api.Act) {
	t.Helper()
	before := raw(l)
	if got, e := tool.Tell(l...); e != api.OK || got != wanted {
		t.Fatalf("%.500s: %.300q, %v, not %.300q", before, got, e, wanted)
	}
	want(t, wanted, l...)
	if raw(l) != before {
		t.Fatalf("%.500s is changed", before)
	}
}

func wantNotTold(t *testing.T, l ...api.Act) {
	t.Helper()
	for _, a := range l {
		for _, all := range [][]api.Act{{a}, {numbered(api.ActFail, 1), a}, {a, crash()}} {
			if got, e := tool.Tell(all...); e != api.ErrArg || got != "" {
				t.Fatalf("%.300s: %.300q, %v", raw(a), got, e)
			}
		}
	}
}

// wantRun asks for what a script shows.
func wantRun(t *testing.T, s string, wanted ...string) {
	t.Helper()
	for range 2 {
		if got, at, e := tool.Run(100, s); e != api.OK || at != 0 || got != strings.Join(wanted, "\n")+"\n" {
			t.Fatalf("%s\nshows %s, %d, %v, not %s", s, got, at, e, strings.Join(wanted, "\n"))
		}
	}
}

func pick[T any](d *rand.Rand, l ...T) T { return l[d.IntN(len(l))] }

// someAct is one that a script can tell.
func someAct(d *rand.Rand) api.Act {
	p := pin(pick(d, "a", "b2", "let", strings.Repeat("z", 20)), d.IntN(3), d.IntN(1000), pick(d, 0, 1, api.MaxNumber))
	source := pick(d, "", "\n", "let f = 1;\n", "END \n end\n ENDE\n", "# x\npublish\n\n", "\x00\xFF\t\n", strings.Repeat("x\n", api.MaxSource/2))
	switch d.IntN(5) {
	case 0:
		return numbered(pick(d, api.ActFail, api.ActPower), pick(d, 0, 1, 17, 999999999))
	case 1:
		var turns []int
		for range d.IntN(4) {
			turns = append(turns, pick(d, 0, 5, 999999999))
		}
		return crash(turns...)
	case 2:
		return pick(d, ask(api.CmdPublish, p, source), ask(api.CmdClient, api.Pin{}, source))
	case 3:
		return pick(d, classify(p, pin("q", 1, 2, 3)), ask(api.CmdVersions, api.Pin{Pkg: p.Pkg}, ""), ask(api.CmdRecover, api.Pin{}, ""), ask(api.CmdFsck, api.Pin{}, ""))
	}
	return ask(pick(d, api.CmdYank, api.CmdUnyank, api.CmdQuery, api.CmdResolve), p, "")
}
