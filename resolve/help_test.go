package resolve_test

import (
	"fmt"
	"math/rand/v2"
	"slices"
	"strings"
	"testing"

	"touchstone/api"
	"touchstone/index"
	"touchstone/resolve"
	"touchstone/semver"
)

func pin(t *testing.T, s string) api.Pin {
	t.Helper()
	p, e := semver.ParsePin(s)
	if e != api.OK {
		t.Fatalf("%q: %v", s, e)
	}
	return p
}

func pins(t *testing.T, s string) []api.Pin {
	t.Helper()
	var l []api.Pin
	for _, x := range strings.Fields(s) {
		l = append(l, pin(t, x))
	}
	return l
}

// some is an index in which releases stand, told as a pin, a blank, and a source; those behind a - are yanked.
func some(t *testing.T, l ...string) *index.Index {
	t.Helper()
	x := index.New()
	for _, s := range l {
		p, source, _ := strings.Cut(strings.TrimPrefix(s, "-"), " ")
		if at, e := x.Publish(pin(t, p), source); e != api.OK {
			t.Fatalf("%s: %d, %v", s, at, e)
		}
	}
	for _, s := range l {
		if p, _, _ := strings.Cut(s, " "); p[0] == '-' {
			yank(t, x, p[1:], true)
		}
	}
	return x
}

func yank(t *testing.T, x *index.Index, p string, on bool) {
	t.Helper()
	if e := x.Yank(pin(t, p), on); e != api.OK {
		t.Fatalf("%s: %v", p, e)
	}
}

func want(t *testing.T, x *index.Index, p, wanted string) {
	t.Helper()
	before := fmt.Sprint(x.All())
	if got, e := resolve.Resolve(x, pin(t, p)); e != api.OK || !slices.Equal(got, pins(t, wanted)) {
		t.Fatalf("%s: %v, %v, not %s", p, got, e, wanted)
	}
	wantChosen(t, x, pin(t, p))
	if fmt.Sprint(x.All()) != before {
		t.Fatal("the index is changed")
	}
}

func wantNone(t *testing.T, x *index.Index, p api.Pin, wanted api.Errno) {
	t.Helper()
	if got, e := resolve.Resolve(x, p); e != wanted || len(got) > 0 {
		t.Fatalf("%v: %v, %v, not %v", p, got, e, wanted)
	}
}

func wantBest(t *testing.T, x *index.Index, pkg string, major int, wanted string) {
	t.Helper()
	got, there := resolve.Best(x, api.Line{Pkg: pkg, Major: major})
	if wanted == "" && (there || got != api.Pin{}) || wanted != "" && (!there || got != pin(t, wanted)) {
		t.Fatalf("%s/%d: %v, %v, not %q", pkg, major, got, there, wanted)
	}
}

func wantHolds(t *testing.T, x *index.Index, p, choice string, wanted bool, wantedErr api.Errno) {
	t.Helper()
	l := pins(t, choice)
	if got, e := resolve.Holds(x, pin(t, p), l); got != wanted || e != wantedErr {
		t.Fatalf("%s with %s: %v, %v, not %v, %v", p, choice, got, e, wanted, wantedErr)
	}
	if !slices.Equal(l, pins(t, choice)) {
		t.Fatal("what was handed in is changed")
	}
}

// wantChosen asks P22.4 and P22.6 of what Resolve tells: it holds, for all of it; and nothing that is not yanked is behind it.
func wantChosen(t *testing.T, x *index.Index, p api.Pin) {
	t.Helper()
	chosen, e := resolve.Resolve(x, p)
	if e != api.OK {
		return
	}
	for _, r := range append([]api.Pin{p}, chosen...) {
		if holds, e := resolve.Holds(x, r, chosen); !holds || e != api.OK {
			t.Fatalf("%v: %v with %v: %v, %v", p, r, chosen, holds, e)
		}
	}
	for _, c := range chosen {
		for _, r := range x.All() {
			if r.Pkg == c.Pkg && r.Major == c.Major && !r.Yanked && semver.Compare(r.Version, c.Version) > 0 {
				t.Fatalf("%v: %v is behind %v", p, r.Pin, c)
			}
		}
	}
}

func pick[T any](d *rand.Rand, l ...T) T { return l[d.IntN(len(l))] }
