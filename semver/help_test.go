package semver_test

import (
	"fmt"
	"math"
	"math/rand/v2"
	"regexp"
	"slices"
	"strings"
	"testing"

	"touchstone/api"
	"touchstone/semver"
)

const most = api.MaxNumber

func version(major, minor, patch int) api.Version {
	return api.Version{Major: major, Minor: minor, Patch: patch}
}

// versions are those of texts such as 1.2.3, of any numbers.
func versions(texts ...string) []api.Version {
	var l []api.Version
	for _, s := range texts {
		var v api.Version
		if n, e := fmt.Sscanf(s, "%d.%d.%d", &v.Major, &v.Minor, &v.Patch); n != 3 || e != nil {
			panic(s)
		}
		l = append(l, v)
	}
	return l
}

func one(s string) api.Version { return versions(s)[0] }

// box are all versions of numbers below n.
func box(n int) []api.Version {
	var l []api.Version
	for i := range n * n * n {
		l = append(l, version(i/n/n, i/n%n, i%n))
	}
	return l
}

// edges are numbers at which something changes, right and wrong ones.
var edges = []int{math.MinInt, math.MinInt + 1, -most, -2, -1, 0, 1, 2, 9, 10, most - 1, most, most + 1, 1 << 32, 1<<32 + 1, math.MaxInt - 1, math.MaxInt}

func rightNumber(n int) bool { return n >= 0 && n <= 999999 }

func someNumber(d *rand.Rand) int {
	switch d.IntN(3) {
	case 0:
		return edges[d.IntN(len(edges))]
	case 1:
		return d.IntN(4)
	}
	return d.IntN(most + 1)
}

func someVersion(d *rand.Rand) api.Version {
	return version(someNumber(d), someNumber(d), someNumber(d))
}

func someRight(d *rand.Rand) api.Version {
	for {
		if v := someVersion(d); semver.Right(v) {
			return v
		}
	}
}

func someList(d *rand.Rand, most int) []api.Version {
	var l []api.Version
	for range d.IntN(most + 1) {
		switch {
		case len(l) > 0 && d.IntN(4) == 0:
			l = append(l, l[d.IntN(len(l))])
		case d.IntN(4) > 0:
			l = append(l, version(d.IntN(3), d.IntN(3), d.IntN(3)))
		default:
			l = append(l, someVersion(d))
		}
	}
	return l
}

// ahead tells the chapter's words a second time.
func ahead(a, b api.Version) bool {
	return a.Major < b.Major || a.Major == b.Major && (a.Minor < b.Minor || a.Minor == b.Minor && a.Patch < b.Patch)
}

// The forms of the chapter's texts, told a second time.
const number = `(0|[1-9][0-9]{0,5})`

var (
	versionForm = regexp.MustCompile(`^` + number + `\.` + number + `\.` + number + `$`)
	pkgForm     = regexp.MustCompile(`^[a-z][a-z0-9]{0,19}$`)
)

// texts are all texts of these letters with at most n of them.
func texts(letters string, n int) []string {
	l := []string{""}
	for i := 0; i < len(l); i++ {
		if len(l[i]) < n {
			for _, c := range letters {
				l = append(l, l[i]+string(c))
			}
		}
	}
	return l
}

// near are texts that one change makes of a text: a byte gone, doubled, another one, or one more.
func near(s string) []string {
	var l []string
	for i := range len(s) + 1 {
		for _, c := range []byte("0123456789.@aAzZ_-+ \t\n\x00\xFF/:`{eEvx,") {
			l = append(l, s[:i]+string([]byte{c})+s[i:])
			if i < len(s) {
				l = append(l, s[:i]+string([]byte{c})+s[i+1:])
			}
		}
		if i < len(s) {
			l = append(l, s[:i]+s[i+1:], s[:i+1]+s[i:], s[:i], s[i:])
		}
	}
	return l
}

func wantParse(t *testing.T, s string, v api.Version) {
	t.Helper()
	if got, e := semver.Parse(s); got != v || e != api.OK {
		t.Fatalf("Parse(%.80q): %v, %v, not %v", s, got, e, v)
	}
}

func wantNoVersion(t *testing.T, l ...string) {
	t.Helper()
	for _, s := range l {
		if got, e := semver.Parse(s); got != (api.Version{}) || e != api.ErrForm {
			t.Fatalf("Parse(%.80q): %v, %v, not %v", s, got, e, api.ErrForm)
		}
	}
}

func wantPin(t *testing.T, s string, p api.Pin) {
	t.Helper()
	if got, e := semver.ParsePin(s); got != p || e != api.OK {
		t.Fatalf("ParsePin(%.80q): %v, %v, not %v", s, got, e, p)
	}
}

func wantNoPin(t *testing.T, l ...string) {
	t.Helper()
	for _, s := range l {
		if got, e := semver.ParsePin(s); got != (api.Pin{}) || e != api.ErrForm {
			t.Fatalf("ParsePin(%.80q): %v, %v, not %v", s, got, e, api.ErrForm)
		}
	}
}

func wantNext(t *testing.T, v string, gap int, next string) {
	t.Helper()
	if got, e := semver.Next(one(v), gap); got != one(next) || e != api.OK {
		t.Fatalf("Next(%s, %d): %v, %v, not %s", v, gap, got, e, next)
	}
}

func wantNoNext(t *testing.T, v api.Version, gap int, wanted api.Errno) {
	t.Helper()
	if got, e := semver.Next(v, gap); got != (api.Version{}) || e != wanted {
		t.Fatalf("Next(%v, %d): %v, %v, not %v", v, gap, got, e, wanted)
	}
}

func wantSorted(t *testing.T, l []api.Version, wanted ...api.Version) {
	t.Helper()
	if got := semver.Sorted(l...); !slices.Equal(got, wanted) {
		t.Fatalf("Sorted(%v): %v, not %v", l, got, wanted)
	}
}

// wantAround takes lists as texts, with blanks between.
func wantAround(t *testing.T, v string, l, below, above string) {
	t.Helper()
	gotBelow, gotAbove := semver.Around(one(v), versions(strings.Fields(l)...)...)
	if !slices.Equal(gotBelow, versions(strings.Fields(below)...)) || !slices.Equal(gotAbove, versions(strings.Fields(above)...)) {
		t.Fatalf("Around(%s, %s): %v, %v, not %s, %s", v, l, gotBelow, gotAbove, below, above)
	}
}

func wantBest(t *testing.T, major int, least string, l string, best string) {
	t.Helper()
	if got, found := semver.Best(major, one(least), versions(strings.Fields(l)...)...); got != one(best) || !found {
		t.Fatalf("Best(%d, %s, %s): %v, %v, not %s", major, least, l, got, found, best)
	}
}

func wantNoBest(t *testing.T, major int, least string, l string) {
	t.Helper()
	if got, found := semver.Best(major, one(least), versions(strings.Fields(l)...)...); got != (api.Version{}) || found {
		t.Fatalf("Best(%d, %s, %s): %v, %v, not none", major, least, l, got, found)
	}
}
