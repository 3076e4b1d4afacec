package semver_test

import (
	"math"
	"testing"

	"touchstone/api"
	"touchstone/semver"
)

// P5.2: which is ahead; the first number that differs counts.
func TestCompare(t *testing.T) {
	for _, c := range []struct {
		a, b string
		is   int
	}{
		{"1.2.3", "1.2.3", 0}, {"0.0.0", "0.0.0", 0},
		{"1.2.3", "1.2.4", -1}, {"1.2.3", "1.3.0", -1}, {"1.2.3", "2.0.0", -1}, {"0.9.9", "1.0.0", -1}, {"1.9.0", "1.10.0", -1}, {"9.0.0", "10.0.0", -1},
		{"1.2.9", "1.3.0", -1}, {"1.9.9", "2.0.0", -1}, {"0.0.999999", "0.1.0", -1},
		{"-1.0.0", "0.0.0", -1}, {"0.0.-5", "0.0.-4", -1}, {"0.-2.9", "0.-1.0", -1},
	} {
		a, b := one(c.a), one(c.b)
		if semver.Compare(a, b) != c.is || semver.Compare(b, a) != -c.is {
			t.Errorf("Compare of %s and %s: %d, %d", c.a, c.b, semver.Compare(a, b), semver.Compare(b, a))
		}
	}
}

// P5.2: numbers so far apart that no int tells how far.
func TestCompareFarApart(t *testing.T) {
	low, high := math.MinInt, math.MaxInt
	for _, c := range [][2]api.Version{
		{version(low, 0, 0), version(high, 0, 0)}, {version(0, low, 0), version(0, high, 0)}, {version(0, 0, low), version(0, 0, high)},
		{version(-2, 0, 0), version(high, 0, 0)}, {version(low, high, high), version(low+1, low, low)}, {version(0, low, high), version(0, 0, low)},
	} {
		if semver.Compare(c[0], c[1]) != -1 || semver.Compare(c[1], c[0]) != 1 {
			t.Errorf("Compare of %v: %d, %d", c, semver.Compare(c[0], c[1]), semver.Compare(c[1], c[0]))
		}
	}
}

// P5.2: the gap is that of the first number that differs, whatever differs behind it, in both directions.
func TestGap(t *testing.T) {
	for _, c := range []struct {
		a, b string
		gap  int
	}{
		{"1.2.3", "1.3.0", api.GapMinor}, {"1.2.3", "1.2.3", api.GapNone}, {"0.0.0", "0.0.0", api.GapNone},
		{"1.2.3", "1.2.4", api.GapPatch}, {"1.2.3", "1.2.999", api.GapPatch},
		{"1.2.3", "1.4.3", api.GapMinor}, {"1.2.3", "1.0.9", api.GapMinor},
		{"1.2.3", "2.2.3", api.GapMajor}, {"1.2.3", "2.2.4", api.GapMajor}, {"1.2.3", "2.3.3", api.GapMajor}, {"1.2.3", "0.9.9", api.GapMajor},
		{"1000000.0.0", "1000000.0.0", api.GapNone}, {"-1.0.0", "1.0.0", api.GapMajor}, {"0.-1.5", "0.1.5", api.GapMinor}, {"0.0.-1", "0.0.1", api.GapPatch},
	} {
		a, b := one(c.a), one(c.b)
		if semver.Gap(a, b) != c.gap || semver.Gap(b, a) != c.gap {
			t.Errorf("Gap of %s and %s: %d, %d, not %d", c.a, c.b, semver.Gap(a, b), semver.Gap(b, a), c.gap)
		}
	}
}

// P5.2: all pairs of numbers at the edges, right or not, and their gaps.
func TestOrderOfEdges(t *testing.T) {
	for _, a := range edges {
		for _, b := range edges {
			for i, pair := range [][2]api.Version{
				{version(a, 5, 5), version(b, 5, 5)}, {version(5, a, 5), version(5, b, 5)}, {version(5, 5, a), version(5, 5, b)},
			} {
				gap, order := api.GapMajor-i, 0
				if a == b {
					gap = api.GapNone
				}
				if a < b {
					order = -1
				}
				if a > b {
					order = 1
				}
				if got := semver.Gap(pair[0], pair[1]); got != gap {
					t.Fatalf("Gap of %v: %d, not %d", pair, got, gap)
				}
				if got := semver.Compare(pair[0], pair[1]); got != order {
					t.Fatalf("Compare of %v: %d, not %d", pair, got, order)
				}
			}
		}
	}
}

// P5.2, example 1: the number of the gap is one more, those behind it are 0, those ahead stay.
func TestNext(t *testing.T) {
	wantNext(t, "1.2.3", api.GapPatch, "1.2.4")
	wantNext(t, "1.2.3", api.GapMinor, "1.3.0")
	wantNext(t, "1.2.3", api.GapMajor, "2.0.0")
	wantNext(t, "0.0.0", api.GapPatch, "0.0.1")
	wantNext(t, "0.0.0", api.GapMinor, "0.1.0")
	wantNext(t, "0.0.0", api.GapMajor, "1.0.0")
	wantNext(t, "9.9.9", api.GapPatch, "9.9.10")
	wantNext(t, "9.9.9", api.GapMinor, "9.10.0")
	wantNext(t, "9.9.9", api.GapMajor, "10.0.0")
}

// P5.2: a number that is MaxNumber has none behind it; others may be what they are.
func TestNextLimit(t *testing.T) {
	wantNoNext(t, one("1.2.999999"), api.GapPatch, api.ErrLimit)
	wantNext(t, "1.2.999999", api.GapMinor, "1.3.0")
	wantNext(t, "1.2.999999", api.GapMajor, "2.0.0")
	wantNext(t, "1.2.999998", api.GapPatch, "1.2.999999")
	wantNoNext(t, one("1.999999.2"), api.GapMinor, api.ErrLimit)
	wantNext(t, "1.999999.2", api.GapPatch, "1.999999.3")
	wantNext(t, "1.999999.2", api.GapMajor, "2.0.0")
	wantNext(t, "1.999998.2", api.GapMinor, "1.999999.0")
	wantNoNext(t, one("999999.1.2"), api.GapMajor, api.ErrLimit)
	wantNext(t, "999999.1.2", api.GapPatch, "999999.1.3")
	wantNext(t, "999999.1.2", api.GapMinor, "999999.2.0")
	wantNext(t, "999998.1.2", api.GapMajor, "999999.0.0")
	for _, gap := range []int{api.GapPatch, api.GapMinor, api.GapMajor} {
		wantNoNext(t, version(most, most, most), gap, api.ErrLimit)
	}
}

// P5.2: a gap that is none, and a version that is not right, ahead of ErrLimit.
func TestNextArg(t *testing.T) {
	for _, gap := range []int{math.MinInt, -3, -1, api.GapNone, 4, 5, 1 << 32, 1<<32 + 1, math.MaxInt} {
		for _, s := range []string{"1.2.3", "0.0.0", "999999.999999.999999", "1.2.1000000"} {
			wantNoNext(t, one(s), gap, api.ErrArg)
		}
	}
	for _, n := range edges {
		for _, gap := range []int{api.GapPatch, api.GapMinor, api.GapMajor} {
			if !rightNumber(n) {
				wantNoNext(t, version(n, 1, 1), gap, api.ErrArg)
				wantNoNext(t, version(1, n, 1), gap, api.ErrArg)
				wantNoNext(t, version(1, 1, n), gap, api.ErrArg)
				wantNoNext(t, version(most, most, n), gap, api.ErrArg)
				wantNoNext(t, version(n, most, most), gap, api.ErrArg)
			}
		}
	}
}
