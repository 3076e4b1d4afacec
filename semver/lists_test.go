package semver_test

import (
	"math"
	"math/rand/v2"
	"slices"
	"testing"

	"touchstone/api"
	"touchstone/semver"
)

// P5.3: rising, each once.
func TestSorted(t *testing.T) {
	wantSorted(t, nil)
	wantSorted(t, []api.Version{})
	wantSorted(t, versions("1.2.3"), versions("1.2.3")...)
	wantSorted(t, versions("1.2.3", "1.2.3"), versions("1.2.3")...)
	wantSorted(t, versions("0.0.0", "0.0.0", "0.0.0"), versions("0.0.0")...)
	wantSorted(t, versions("2.0.0", "1.10.0", "1.9.9", "1.9.10", "0.5.0"), versions("0.5.0", "1.9.9", "1.9.10", "1.10.0", "2.0.0")...)
	wantSorted(t, versions("1.0.0", "2.0.0", "1.0.0", "3.0.0", "2.0.0"), versions("1.0.0", "2.0.0", "3.0.0")...)
	wantSorted(t, versions("1.0.0", "-1.0.0", "0.0.1000000", "0.-2.0", "0.0.-3"), versions("-1.0.0", "0.-2.0", "0.0.-3", "0.0.1000000", "1.0.0")...)
	wantSorted(t, []api.Version{version(math.MaxInt, 0, 0), version(math.MinInt, 0, 0), {}}, version(math.MinInt, 0, 0), api.Version{}, version(math.MaxInt, 0, 0))
}

// P5.3: all lists of any order are sorted as they would be by hand.
func TestSortedAny(t *testing.T) {
	d := rand.New(rand.NewPCG(5, 1))
	for range 3000 {
		l := someList(d, 30)
		var wanted []api.Version
		for _, v := range l {
			at := 0
			for at < len(wanted) && ahead(wanted[at], v) {
				at++
			}
			if at == len(wanted) || wanted[at] != v {
				wanted = slices.Insert(wanted, at, v)
			}
		}
		wantSorted(t, l, wanted...)
		wantSorted(t, wanted, wanted...)
		d.Shuffle(len(l), func(i, k int) { l[i], l[k] = l[k], l[i] })
		wantSorted(t, l, wanted...)
	}
}

// Rule 3: what is handed in is not changed, what is handed out is the caller's own.
func TestListsOwn(t *testing.T) {
	l := versions("3.0.0", "1.2.0", "1.0.0", "1.2.0", "1.1.0")
	kept := slices.Clone(l)
	sorted := semver.Sorted(l...)
	below, above := semver.Around(one("1.1.5"), l...)
	semver.Best(1, one("1.0.0"), l...)
	if !slices.Equal(l, kept) {
		t.Fatalf("%v, not %v", l, kept)
	}
	sorted[0], below[0], above[0] = version(7, 7, 7), version(8, 8, 8), version(9, 9, 9)
	_ = append(below[:1], version(6, 6, 6))
	if !slices.Equal(l, kept) || above[0] != version(9, 9, 9) {
		t.Fatalf("%v, not %v; %v", l, kept, above)
	}
	rising := versions("1.0.0", "2.0.0")
	semver.Sorted(rising...)[0] = version(7, 7, 7)
	if rising[0] != version(1, 0, 0) {
		t.Fatalf("%v", rising)
	}
}

// P5.3: the greatest one ahead, and the least one behind.
func TestAround(t *testing.T) {
	wantAround(t, "1.2.0", "1.0.0 1.1.0 1.3.0 1.4.0", "1.1.0", "1.3.0")
	wantAround(t, "1.2.0", "1.4.0 1.1.0 1.3.0 1.0.0", "1.1.0", "1.3.0")
	wantAround(t, "1.2.3", "1.2.2 1.2.4", "1.2.2", "1.2.4")
	wantAround(t, "1.2.3", "1.1.999999 1.3.0", "1.1.999999", "1.3.0")
	wantAround(t, "1.2.3", "1.0.0 1.0.0 1.0.0", "1.0.0", "")
	wantAround(t, "1.2.3", "1.9.0 1.10.0", "", "1.9.0")
}

// P5.3: no version, and versions on one side alone.
func TestAroundNone(t *testing.T) {
	wantAround(t, "1.2.3", "", "", "")
	wantAround(t, "1.2.3", "1.2.4", "", "1.2.4")
	wantAround(t, "1.2.3", "1.2.2", "1.2.2", "")
	wantAround(t, "0.0.0", "0.0.0", "", "")
	wantAround(t, "0.0.0", "0.0.1 0.0.2", "", "0.0.1")
}

// P5.3: the version itself is neither ahead nor behind, as often as it may stand there.
func TestAroundItself(t *testing.T) {
	wantAround(t, "1.2.3", "1.2.3", "", "")
	wantAround(t, "1.2.3", "1.2.3 1.2.3", "", "")
	wantAround(t, "1.2.3", "1.2.3 1.2.2 1.2.3 1.2.4 1.2.3", "1.2.2", "1.2.4")
}

// P5.3: other majors are not around, also where there is none of this one.
func TestAroundOtherMajors(t *testing.T) {
	wantAround(t, "1.2.3", "0.9.9 2.0.0", "", "")
	wantAround(t, "1.2.3", "0.9.9 1.0.0 2.0.0", "1.0.0", "")
	wantAround(t, "1.2.3", "0.9.9 1.5.0 2.0.0", "", "1.5.0")
	wantAround(t, "1.2.3", "0.2.2 2.2.4 0.2.4 2.2.2", "", "")
}

// P5.3: numbers that no right version has are put in order like others.
func TestAroundWrong(t *testing.T) {
	wantAround(t, "-1.0.0", "-1.-1.0 -1.0.-5 -1.0.1000000 -2.0.0 0.0.0", "-1.0.-5", "-1.0.1000000")
	wantAround(t, "1000000.0.0", "1000000.0.1 1000001.0.0", "", "1000000.0.1")
}

// P5.3: the greatest one of a major that is not ahead of the least.
func TestBest(t *testing.T) {
	wantBest(t, 1, "1.0.0", "1.0.0 1.1.0 1.2.0 2.0.0", "1.2.0")
	wantBest(t, 1, "1.0.0", "2.0.0 1.2.0 1.0.0 1.10.0 1.9.0", "1.10.0")
	wantBest(t, 1, "1.0.0", "1.0.5", "1.0.5")
	wantBest(t, 1, "1.0.0", "1.5.0 1.5.0", "1.5.0")
	wantBest(t, 0, "0.0.0", "0.0.0", "0.0.0")
	wantBest(t, 0, "0.0.0", "1.0.0 0.0.0 0.0.0", "0.0.0")
	wantBest(t, 999999, "999999.0.0", "999999.999999.999999 999999.999999.999998", "999999.999999.999999")
}

// P5.3: a version that is least itself may be; one just ahead of it may not.
func TestBestLeast(t *testing.T) {
	wantBest(t, 1, "1.2.3", "1.2.3", "1.2.3")
	wantBest(t, 1, "1.2.3", "1.2.2 1.2.3 1.1.9", "1.2.3")
	wantNoBest(t, 1, "1.2.3", "1.2.2")
	wantNoBest(t, 1, "1.2.3", "1.2.2 1.1.9 1.0.0 0.9.9")
	wantNoBest(t, 1, "1.2.3", "1.1.4 1.0.999999")
}

// P5.3: no version, or none of the major.
func TestBestNone(t *testing.T) {
	wantNoBest(t, 1, "1.0.0", "")
	wantNoBest(t, 1, "1.0.0", "0.0.0 2.0.0 3.1.4")
	wantNoBest(t, -1, "0.0.0", "0.0.0 1.0.0")
	wantNoBest(t, 0, "0.0.0", "")
}

// P5.3: a least one of another major.
func TestBestOtherLeast(t *testing.T) {
	wantBest(t, 1, "0.5.0", "0.9.0 1.0.0 1.1.0 2.0.0", "1.1.0")
	wantBest(t, 1, "0.0.0", "1.0.0", "1.0.0")
	wantNoBest(t, 1, "2.0.0", "1.0.0 1.9.9 2.0.0")
}

// P5.3: numbers that no right version has.
func TestBestWrong(t *testing.T) {
	wantBest(t, -1, "-1.0.0", "-1.0.0 -1.1000000.0 -1.5.0", "-1.1000000.0")
	wantBest(t, -2, "-3.0.0", "-2.-7.0 -2.-5.0 -2.-6.0", "-2.-5.0")
	wantNoBest(t, -2, "-2.-4.0", "-2.-7.0 -2.-5.0 -2.-6.0")
	wantBest(t, 1000000, "0.0.0", "1000000.0.0", "1000000.0.0")
}

// P5.3: any lists, with looks at each of their members.
func TestListsAny(t *testing.T) {
	d := rand.New(rand.NewPCG(5, 2))
	for range 20000 {
		l, v := someList(d, 12), version(d.IntN(3), d.IntN(3), d.IntN(3))
		if len(l) > 0 && d.IntN(3) == 0 {
			v = l[d.IntN(len(l))]
		}
		var below, above, best []api.Version
		for _, x := range l {
			if x.Major == v.Major && ahead(x, v) && (below == nil || ahead(below[0], x)) {
				below = []api.Version{x}
			}
			if x.Major == v.Major && ahead(v, x) && (above == nil || ahead(x, above[0])) {
				above = []api.Version{x}
			}
			if x.Major == v.Major && !ahead(x, v) && (best == nil || ahead(best[0], x)) {
				best = []api.Version{x}
			}
		}
		gotBelow, gotAbove := semver.Around(v, l...)
		if !slices.Equal(gotBelow, below) || !slices.Equal(gotAbove, above) {
			t.Fatalf("Around(%v, %v): %v, %v, not %v, %v", v, l, gotBelow, gotAbove, below, above)
		}
		got, found := semver.Best(v.Major, v, l...)
		if found != (best != nil) || found && got != best[0] || !found && got != (api.Version{}) {
			t.Fatalf("Best(%d, %v, %v): %v, %v, not %v", v.Major, v, l, got, found, best)
		}
	}
}
