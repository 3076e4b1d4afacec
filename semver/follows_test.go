package semver_test

import (
	"math/rand/v2"
	"testing"

	"touchstone/api"
	"touchstone/semver"
)

// P5.5: Parse of Print is the version, of each right one; what has no text is not read.
func TestBack(t *testing.T) {
	d := rand.New(rand.NewPCG(5, 3))
	for range 50000 {
		v := someVersion(d)
		got, e := semver.Parse(semver.Print(v))
		if semver.Right(v) && (got != v || e != api.OK) || !semver.Right(v) && e != api.ErrForm {
			t.Fatalf("Parse of Print of %v: %v, %v", v, got, e)
		}
	}
	for n := range most + 1 {
		v := version(n, most-n, n/2)
		if got, e := semver.Parse(semver.Print(v)); got != v || e != api.OK {
			t.Fatalf("Parse of Print of %v: %v, %v", v, got, e)
		}
	}
}

// P5.5: Print of Parse is the text, of each that is one; what is read is right.
func TestBackOfText(t *testing.T) {
	l := texts("019.", 8)
	for _, s := range []string{"1.20.3", "0.0.0", "999999.999999.999999"} {
		l = append(l, near(s)...)
	}
	for _, s := range l {
		v, e := semver.Parse(s)
		if e == api.OK && (semver.Print(v) != s || !semver.Right(v)) {
			t.Fatalf("Print of Parse(%q), %v: %q", s, v, semver.Print(v))
		}
		p, e := semver.ParsePin(s)
		if e == api.OK {
			t.Fatalf("ParsePin(%q): %v", s, p)
		}
		if p, e := semver.ParsePin("a@" + s); e == api.OK && (p.Pkg+"@"+semver.Print(p.Version) != "a@"+s || !semver.IsPkg(p.Pkg)) {
			t.Fatalf("ParsePin(%q): %v", "a@"+s, p)
		}
	}
}

// wantOrder asks three versions for what an order is.
func wantOrder(t *testing.T, a, b, c api.Version) {
	t.Helper()
	ab, ba, bc, ac := semver.Compare(a, b), semver.Compare(b, a), semver.Compare(b, c), semver.Compare(a, c)
	if ab < -1 || ab > 1 || ab != -ba || (ab == 0) != (a == b) || semver.Compare(a, a) != 0 {
		t.Fatalf("Compare of %v and %v: %d, %d", a, b, ab, ba)
	}
	if (ab < 0) != ahead(a, b) || (semver.Gap(a, b) == api.GapNone) != (ab == 0) {
		t.Fatalf("Compare of %v and %v: %d; Gap: %d", a, b, ab, semver.Gap(a, b))
	}
	if ab <= 0 && bc <= 0 && (ac > 0 || ac == 0 && a != c) || ab < 0 && bc <= 0 && ac != -1 {
		t.Fatalf("Compare of %v, %v, %v: %d, %d, %d", a, b, c, ab, bc, ac)
	}
}

// P5.6: of two versions one is ahead, or they are the same; being ahead goes on.
func TestOrder(t *testing.T) {
	small := box(3)
	for _, a := range small {
		for _, b := range small {
			for _, c := range small {
				wantOrder(t, a, b, c)
			}
		}
	}
	d := rand.New(rand.NewPCG(5, 4))
	for range 100000 {
		wantOrder(t, someVersion(d), someVersion(d), someVersion(d))
	}
}

// roundTo tells whether the numbers behind that of a gap are 0.
func roundTo(v api.Version, gap int) bool {
	return (gap < api.GapMinor || v.Patch == 0) && (gap < api.GapMajor || v.Minor == 0)
}

// wantJustNext asks that a version's next one is behind it, by just that gap.
func wantJustNext(t *testing.T, v api.Version, gap int) api.Version {
	t.Helper()
	next, e := semver.Next(v, gap)
	if e != api.OK || semver.Compare(v, next) != -1 || semver.Gap(v, next) != gap || !roundTo(next, gap) || !semver.Right(next) {
		t.Fatalf("Next(%v, %d): %v, %v", v, gap, next, e)
	}
	return next
}

// P5.7: nothing with that gap, or a lesser one, and 0 behind, lies between; nor anything at all with that gap.
func TestNextIsNext(t *testing.T) {
	all := box(6)
	for _, v := range box(5) {
		for gap := api.GapPatch; gap <= api.GapMajor; gap++ {
			next := wantJustNext(t, v, gap)
			for _, x := range all {
				if !ahead(v, x) || !ahead(x, next) {
					continue
				}
				if semver.Gap(v, x) >= gap || roundTo(x, gap) {
					t.Fatalf("between %v and its next by %d, %v, lies %v", v, gap, next, x)
				}
			}
			below, above := semver.Around(v, append(all, next)...)
			if gap == api.GapPatch && (above[0] != next || len(below) > 0 && !ahead(below[0], v)) {
				t.Fatalf("around %v: %v, %v", v, below, above)
			}
		}
	}
}

// P5.7: so it is of all right versions; where there is no next one the number is MaxNumber.
func TestNextAny(t *testing.T) {
	d := rand.New(rand.NewPCG(5, 5))
	limits := 0
	for range 50000 {
		v := someRight(d)
		for gap, n := range map[int]int{api.GapPatch: v.Patch, api.GapMinor: v.Minor, api.GapMajor: v.Major} {
			if n == most {
				limits++
				wantNoNext(t, v, gap, api.ErrLimit)
				continue
			}
			next := wantJustNext(t, v, gap)
			x := someRight(d)
			if ahead(v, x) && ahead(x, next) && (semver.Gap(v, x) >= gap || roundTo(x, gap)) {
				t.Fatalf("between %v and its next by %d, %v, lies %v", v, gap, next, x)
			}
		}
	}
	if limits < 1000 {
		t.Fatalf("MaxNumber came %d times", limits)
	}
}
