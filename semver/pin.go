package semver

import (
	"strings"

	"touchstone/api"
)

// ParsePin reads a pin.
func ParsePin(s string) (api.Pin, api.Errno) {
	pkg, version, _ := strings.Cut(s, "@")
	// Without an @ there is no version's text behind it, which Parse refuses.
	v, e := Parse(version)
	if e != api.OK || !IsPkg(pkg) {
		return api.Pin{}, api.ErrForm
	}
	return api.Pin{Pkg: strings.Clone(pkg), Version: v}, api.OK
}

// IsPkg tells whether a text is a package's name.
func IsPkg(s string) bool {
	if s == "" || len(s) > api.MaxPkg || isDigit(s[0]) {
		return false
	}
	for i := range len(s) {
		if !isLetter(s[i]) && !isDigit(s[i]) {
			return false
		}
	}
	return true
}

func isLetter(c byte) bool { return c >= 'a' && c <= 'z' }

func isDigit(c byte) bool { return c >= '0' && c <= '9' }
