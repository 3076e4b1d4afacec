package semver

import (
	"cmp"
	"maps"
	"slices"

	"touchstone/api"
)

// Compare puts two in order.
func Compare(a, b api.Version) int {
	return cmp.Or(cmp.Compare(a.Major, b.Major), cmp.Compare(a.Minor, b.Minor), cmp.Compare(a.Patch, b.Patch))
}

// Gap is how far two are apart.
func Gap(a, b api.Version) int {
	switch {
	case a == b:
		return api.GapNone
	case a.Major != b.Major:
		return api.GapMajor
	case a.Minor != b.Minor:
		return api.GapMinor
	}
	return api.GapPatch
}

// Next is the next one by a gap.
func Next(v api.Version, gap int) (api.Version, api.Errno) {
	if !Right(v) || gap < api.GapPatch || gap > api.GapMajor {
		return api.Version{}, api.ErrArg
	}
	n := numbersOf(v)
	place := api.GapMajor - gap
	if n[place] == api.MaxNumber {
		return api.Version{}, api.ErrLimit
	}
	n[place]++
	switch gap {
	case api.GapMajor:
		n[1] = 0
		fallthrough
	case api.GapMinor:
		n[2] = 0
	}
	return n.version(), api.OK
}

// Sorted are versions in order.
func Sorted(l ...api.Version) []api.Version {
	once := map[api.Version]struct{}{}
	for _, v := range l {
		once[v] = struct{}{}
	}
	return slices.SortedFunc(maps.Keys(once), Compare)
}

// Around are the next ones on both sides.
func Around(v api.Version, l ...api.Version) (below, above []api.Version) {
	for _, x := range Sorted(l...) {
		if x.Major != v.Major {
			continue
		}
		switch Compare(x, v) {
		case -1:
			below = []api.Version{x}
		case 1:
			return below, []api.Version{x}
		}
	}
	return below, nil
}

// Best is the greatest one that may be.
func Best(major int, least api.Version, l ...api.Version) (api.Version, bool) {
	var best api.Version
	found := false
	for _, x := range l {
		if x.Major != major || Compare(x, least) < 0 {
			continue
		}
		if !found || Compare(x, best) > 0 {
			best, found = x, true
		}
	}
	return best, found
}
