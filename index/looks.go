package index

import (
	"cmp"
	"maps"
	"slices"

	"touchstone/api"
	"touchstone/copied"
	"touchstone/semver"
)

func lineOf(p api.Pin) api.Line { return api.Line{Pkg: p.Pkg, Major: p.Major} }

// Get is a release.
func (x *Index) Get(p api.Pin) (api.Release, bool) {
	if !x.isMade() {
		return api.Release{}, false
	}
	r, there := x.releases[p]
	return copied.Release(r), there
}

// All are all releases.
func (x *Index) All() []api.Release { return copied.List(x.own(), copied.Release) }

// own are all releases, as they are kept.
func (x *Index) own() []api.Release {
	if !x.isMade() {
		return nil
	}
	pins := slices.SortedFunc(maps.Keys(x.releases), func(a, b api.Pin) int {
		return cmp.Or(cmp.Compare(a.Pkg, b.Pkg), semver.Compare(a.Version, b.Version))
	})
	var l []api.Release
	for _, p := range pins {
		l = append(l, x.releases[p])
	}
	return l
}

// Versions are a package's.
func (x *Index) Versions(pkg string) []api.Version {
	var l []api.Version
	for _, r := range x.own() {
		if r.Pkg == pkg {
			l = append(l, r.Version)
		}
	}
	return l
}

// Reach is the lines that pins reach.
func (x *Index) Reach(l []api.Pin) []api.Line {
	if !x.isMade() {
		return nil
	}
	met := map[api.Pin]struct{}{}
	lines := map[api.Line]struct{}{}
	var reach func(l []api.Pin)
	reach = func(l []api.Pin) {
		for _, p := range l {
			if _, there := met[p]; there {
				continue
			}
			met[p] = struct{}{}
			lines[lineOf(p)] = struct{}{}
			reach(x.releases[p].Pins)
		}
	}
	reach(l)
	return slices.SortedFunc(maps.Keys(lines), func(a, b api.Line) int {
		return cmp.Or(cmp.Compare(a.Pkg, b.Pkg), cmp.Compare(a.Major, b.Major))
	})
}
