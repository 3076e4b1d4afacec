package resolve_test

import (
	"math/rand/v2"
	"slices"
	"testing"

	"touchstone/api"
	"touchstone/index"
	"touchstone/resolve"
	"touchstone/semver"
)

const (
	f  = "let f = fun x -> (x : int); export f;"
	g  = "let f = fun x -> x; let g = 1; export f; export g;"
	af = "import A = a@1.0.0; let h = A.f; export h;"
)

// P22.1: the greatest release of a line that is not yanked.
func TestBest(t *testing.T) {
	x := some(t, "a@1.0.0 "+f, "a@1.0.9 "+f, "a@1.2.0 "+g, "-a@1.10.0 "+g, "a@2.0.0 ", "-a@3.0.0 ", "a@0.5.0 "+f, "aa@1.5.0 ")
	wantBest(t, x, "a", 1, "a@1.2.0")
	wantBest(t, x, "a", 2, "a@2.0.0")
	wantBest(t, x, "a", 0, "a@0.5.0")
	wantBest(t, x, "a", 3, "")
	wantBest(t, x, "a", 4, "")
	wantBest(t, x, "a", -1, "")
	wantBest(t, x, "b", 1, "")
	wantBest(t, x, "", 1, "")
	yank(t, x, "a@1.10.0", false)
	wantBest(t, x, "a", 1, "a@1.10.0")
	yank(t, x, "a@1.0.0", true)
	wantBest(t, x, "a", 1, "a@1.10.0")
	for _, s := range []string{"a@1.10.0", "a@1.2.0", "a@1.0.9"} {
		yank(t, x, s, true)
	}
	wantBest(t, x, "a", 1, "")
	wantBest(t, index.New(), "a", 1, "")
	wantBest(t, nil, "a", 1, "")
}

// P22.2: what is chosen.
func TestResolve(t *testing.T) {
	x := some(t, "a@1.0.0 "+f, "a@1.1.0 "+g, "b@1.0.0 "+af)
	want(t, x, "a@1.0.0", "")
	want(t, x, "b@1.0.0", "a@1.1.0")
	yank(t, x, "a@1.1.0", true)
	want(t, x, "b@1.0.0", "a@1.0.0")
	yank(t, x, "a@1.0.0", true)
	wantNone(t, x, pin(t, "b@1.0.0"), api.ErrVersion)
	yank(t, x, "a@1.1.0", false)
	want(t, x, "b@1.0.0", "a@1.1.0")
	yank(t, x, "b@1.0.0", true)
	want(t, x, "b@1.0.0", "a@1.1.0")
	y := some(t, "-z@0.0.0 ", "b@1.0.0 import Z = z@0.0.0;")
	wantNone(t, y, pin(t, "b@1.0.0"), api.ErrVersion)
	for _, p := range []api.Pin{{}, pin(t, "b@1.0.1"), pin(t, "c@1.0.0"), {Pkg: "a", Version: api.Version{Major: -1}}} {
		wantNone(t, x, p, api.ErrNone)
		wantNone(t, nil, p, api.ErrNil)
	}
}

// P22.2: what is chosen needs more lines; these rise.
func TestMoreLines(t *testing.T) {
	x := some(t, "z@1.0.0 ", "a@10.0.0 ", "a@2.0.0 ", "m@1.0.0 import Z = z@1.0.0;", "m@1.0.1 import A = a@10.0.0; import B = a@2.0.0;", "q@1.0.0 import M = m@1.0.0;", "r@1.0.0 import Q = q@1.0.0; import Z = z@1.0.0;")
	want(t, x, "q@1.0.0", "a@2.0.0 a@10.0.0 m@1.0.1")
	want(t, x, "r@1.0.0", "a@2.0.0 a@10.0.0 m@1.0.1 q@1.0.0 z@1.0.0")
	yank(t, x, "m@1.0.1", true)
	want(t, x, "q@1.0.0", "m@1.0.0 z@1.0.0")
	yank(t, x, "z@1.0.0", true)
	wantNone(t, x, pin(t, "q@1.0.0"), api.ErrVersion)
	yank(t, x, "m@1.0.1", false)
	want(t, x, "q@1.0.0", "a@2.0.0 a@10.0.0 m@1.0.1")
	wantNone(t, x, pin(t, "r@1.0.0"), api.ErrVersion)
	yank(t, x, "a@10.0.0", true)
	wantNone(t, x, pin(t, "q@1.0.0"), api.ErrVersion)
	want(t, x, "z@1.0.0", "")
}

// P22.2: a line that is needed by several, with unlike pins: what is chosen must not be ahead of any.
func TestUnlikePins(t *testing.T) {
	x := some(t, "a@1.0.0 "+f, "a@1.1.0 "+g, "a@1.2.0 "+g, "b@1.0.0 "+af, "b@1.1.0 import A = a@1.2.0; let h = A.f; let k = A.g; export h; export k;", "c@1.0.0 import A = a@1.1.0; import B = b@1.0.0; let x = (A.g, B.h); export x;")
	want(t, x, "c@1.0.0", "a@1.2.0 b@1.1.0")
	yank(t, x, "a@1.2.0", true)
	wantNone(t, x, pin(t, "c@1.0.0"), api.ErrVersion) // b's best one needs a@1.2.0
	wantNone(t, x, pin(t, "b@1.1.0"), api.ErrVersion)
	want(t, x, "b@1.0.0", "a@1.1.0")
	yank(t, x, "b@1.1.0", true)
	want(t, x, "c@1.0.0", "a@1.1.0 b@1.0.0")
	yank(t, x, "a@1.1.0", true)
	wantNone(t, x, pin(t, "c@1.0.0"), api.ErrVersion) // its own pin is a@1.1.0
	want(t, x, "b@1.0.0", "a@1.0.0")
	yank(t, x, "b@1.0.0", true)
	yank(t, x, "a@1.2.0", false)
	wantNone(t, x, pin(t, "c@1.0.0"), api.ErrVersion)
}

// P22.3: choices that hold, and what keeps one from being asked.
func TestHolds(t *testing.T) {
	x := some(t, "a@1.0.0 "+f, "a@1.1.0 "+g, "a@2.0.0 "+g, "b@1.0.0 import A = a@1.1.0; let h = A.f; export h; let k = A.g;", "c@1.0.0 "+af, "d@1.0.0 import A = a@1.0.0; import C = a@2.0.0; let x = (A.f, C.g); export x;")
	wantHolds(t, x, "a@1.0.0", "", true, api.OK)
	wantHolds(t, x, "a@1.0.0", "b@1.0.0", true, api.OK)
	wantHolds(t, x, "b@1.0.0", "a@1.1.0", true, api.OK)
	wantHolds(t, x, "c@1.0.0", "a@1.0.0", true, api.OK)
	wantHolds(t, x, "c@1.0.0", "a@1.1.0", true, api.OK)
	wantHolds(t, x, "c@1.0.0", "a@2.0.0 b@1.0.0 a@1.1.0", true, api.OK)
	wantHolds(t, x, "d@1.0.0", "a@2.0.0 a@1.1.0", true, api.OK)
	// too little, or ahead of a pin
	wantHolds(t, x, "b@1.0.0", "", false, api.ErrPin)
	wantHolds(t, x, "b@1.0.0", "a@1.0.0", false, api.ErrPin)
	wantHolds(t, x, "b@1.0.0", "a@2.0.0 c@1.0.0", false, api.ErrPin)
	wantHolds(t, x, "d@1.0.0", "a@1.1.0", false, api.ErrPin)
	wantHolds(t, x, "d@1.0.0", "a@2.0.0", false, api.ErrPin)
	// two pins of one line: the first one counts
	wantHolds(t, x, "b@1.0.0", "a@1.0.0 a@1.1.0", false, api.ErrPin)
	wantHolds(t, x, "b@1.0.0", "a@1.1.0 a@1.0.0", true, api.OK)
	// what is none
	wantHolds(t, x, "b@1.0.1", "a@1.1.0", false, api.ErrNone)
	wantHolds(t, x, "b@1.0.0", "a@1.1.0 e@1.0.0", false, api.ErrNone)
	wantHolds(t, x, "b@1.0.0", "a@1.2.0", false, api.ErrNone)
	wantHolds(t, x, "b@1.0.0", "e@1.0.0 a@1.0.0", false, api.ErrNone)
	for _, s := range []string{"a@1.1.0", "c@1.0.0", "b@1.0.0"} {
		yank(t, x, s, true)
	}
	wantHolds(t, x, "b@1.0.0", "a@1.1.0", true, api.OK)
	wantHolds(t, x, "c@1.0.0", "a@1.1.0", true, api.OK)
	wantHolds(t, nil, "a@1.0.0", "", false, api.ErrNil)
	wantHolds(t, nil, "b@1.0.0", "e@1.0.0", false, api.ErrNil)
}

// P22.3, P22.5: the choice may let a release tell more.
func TestTellsMore(t *testing.T) {
	x := some(t, "a@1.0.0 let f = fun x -> (x : int); export f;", "a@1.1.0 let f = fun x -> x; export f;", "b@1.0.0 import A = a@1.0.0; let h = A.f; export h;", "c@1.0.0 import A = a@1.0.0; let h : int -> int = A.f; export h;")
	wantHolds(t, x, "b@1.0.0", "a@1.1.0", true, api.OK)
	wantHolds(t, x, "c@1.0.0", "a@1.1.0", true, api.OK)
	want(t, x, "b@1.0.0", "a@1.1.0")
}

// someRelease is of few packages; sources import some that are there.
func someRelease(d *rand.Rand, x *index.Index) (api.Pin, string) {
	p := api.Pin{Pkg: pick(d, "a", "b", "c", "e"), Version: api.Version{Major: 1 + d.IntN(2), Minor: d.IntN(3), Patch: d.IntN(2)}}
	source := pick(d, f, g, g, g)
	all := x.All()
	for _, as := range []string{"P", "Q"} {
		if len(all) > 0 && d.IntN(2) == 0 {
			r := pick(d, all...)
			source += " import " + as + " = " + r.Pkg + "@" + semver.Print(r.Version) + "; let " + pick(d, "x", "y", "z") + " = " + as + ".f 1;"
		}
	}
	return p, source
}

// P22.4, P22.5, P22.6: any releases, of which some are yanked.
func TestAny(t *testing.T) {
	d := rand.New(rand.NewPCG(22, 4))
	met := map[api.Errno]int{}
	choices := 0
	for range 60 {
		x := index.New()
		for range 40 {
			x.Publish(someRelease(d, x))
		}
		all := x.All()
		for _, r := range all {
			if d.IntN(4) == 0 {
				x.Yank(r.Pin, true)
			}
		}
		for _, r := range all {
			chosen, e := resolve.Resolve(x, r.Pin)
			met[e]++
			if wanted, right := told(x, r); right != (e == api.OK) || !slices.Equal(chosen, wanted) {
				t.Fatalf("%v: %v, %v, not %v", r.Pin, chosen, e, wanted)
			}
			wantChosen(t, x, r.Pin)
			// Any choice that is not ahead of the pins holds, yanked or not.
			var choice []api.Pin
			for _, p := range r.Pins {
				var may []api.Pin
				for _, o := range all {
					if o.Pkg == p.Pkg && o.Major == p.Major && semver.Compare(o.Version, p.Version) >= 0 {
						may = append(may, o.Pin)
					}
				}
				choice = append(choice, pick(d, may...))
			}
			if holds, e := resolve.Holds(x, r.Pin, choice); !holds || e != api.OK {
				t.Fatalf("%v with %v: %v, %v", r.Pin, choice, holds, e)
			}
			choices += len(choice)
		}
	}
	if met[api.OK] < 200 || met[api.ErrVersion] < 20 || choices < 200 {
		t.Fatal(met, choices)
	}
}

// told tells Resolve's words a second time: all lines first, then what is asked of them.
func told(x *index.Index, r api.Release) ([]api.Pin, bool) {
	best := map[api.Line]api.Pin{}
	needs := slices.Clone(r.Pins)
	for i := 0; i < len(needs); i++ {
		l := api.Line{Pkg: needs[i].Pkg, Major: needs[i].Major}
		if _, done := best[l]; done {
			continue
		}
		for _, o := range x.All() {
			if o.Pkg == l.Pkg && o.Major == l.Major && !o.Yanked {
				best[l] = o.Pin // all rise: the last one is the greatest
			}
		}
		if _, there := best[l]; !there {
			return nil, false
		}
		b, _ := x.Get(best[l])
		needs = append(needs, b.Pins...)
	}
	var l []api.Pin
	for _, o := range x.All() {
		if best[api.Line{Pkg: o.Pkg, Major: o.Major}] == o.Pin {
			l = append(l, o.Pin)
		}
	}
	for _, n := range needs {
		if semver.Compare(best[api.Line{Pkg: n.Pkg, Major: n.Major}].Version, n.Version) < 0 {
			return nil, false
		}
	}
	return l, true
}
