package tool

import (
	"strconv"
	"strings"

	"touchstone/api"
	"touchstone/semver"
)

// lines are a script's, of which some are read.
type lines struct {
	left   []string
	number int // of the line that was read last
}

// split cuts a script into lines. The last one need not be ended; of nothing there is one line, which tells nothing.
func split(s string) lines {
	return lines{left: strings.Split(strings.TrimSuffix(s, "\n"), "\n")}
}

func (l *lines) more() bool { return len(l.left) > 0 }

func (l *lines) next() string {
	line := l.left[0]
	l.left = l.left[1:]
	l.number++
	return line
}

// reader reads a script.
type reader struct{ lines }

func (r *reader) words() []string {
	return strings.FieldsFunc(r.next(), func(c rune) bool { return c == ' ' })
}

// act is what a line's words tell, with the source that may follow.
func (r *reader) act(words []string) (api.Act, bool) {
	var a api.Act
	switch first := words[0]; first {
	case "fail":
		a.Kind = api.ActFail
		return a, fits(words, first, &a.N)
	case "power":
		a.Kind = api.ActPower
		return a, fits(words, first, &a.N)
	case "crash":
		a.Kind = api.ActCrash
		return a, fits(words, first, &a.Turns)
	}
	a.Kind = api.ActAsk
	return a, r.command(words, &a.Command)
}

// A word that may be any, and one that is a package's name.
type (
	mark string
	pkg  string
)

func (r *reader) command(words []string, c *api.Command) bool {
	var m mark
	var p pkg
	right := false
	c.Kind = kindOf(words[0])
	switch c.Kind {
	case api.CmdPublish:
		right = fits(words, words[0], &c.Pin, "<<", &m)
	case api.CmdClient:
		right = fits(words, words[0], "<<", &m)
	case api.CmdYank, api.CmdUnyank, api.CmdQuery, api.CmdResolve:
		right = fits(words, words[0], &c.Pin)
	case api.CmdVersions:
		right = fits(words, words[0], &p)
		c.Pin.Pkg = string(p)
	case api.CmdClassify:
		right = fits(words, words[0], &c.Pin, &c.Other)
	case api.CmdRecover, api.CmdFsck:
		right = fits(words, words[0])
	}
	if !right || m == "" {
		return right
	}
	c.Source, right = r.source(string(m))
	return right
}

// source is the lines up to a mark, and whether that comes.
func (r *reader) source(mark string) (string, bool) {
	var s strings.Builder
	for r.more() {
		line := r.next()
		if line == mark {
			return s.String(), true
		}
		s.WriteString(line)
		s.WriteByte('\n')
	}
	return "", false
}

// fits tells whether words are as wanted: a text is that word; a pointer takes what a word tells, one to a list what all that are left tell.
func fits(words []string, wanted ...any) bool {
	if list, is := wanted[len(wanted)-1].(*[]int); is {
		first := len(wanted) - 1
		for _, word := range words[first:] {
			n := 0
			if !takes(word, &n) {
				return false
			}
			*list = append(*list, n)
		}
		words, wanted = words[:first], wanted[:first]
	}
	if len(words) != len(wanted) {
		return false
	}
	for i, word := range words {
		if !takes(word, wanted[i]) {
			return false
		}
	}
	return true
}

// takes tells whether a word is as wanted.
func takes(word string, wanted any) bool {
	switch x := wanted.(type) {
	case string:
		return word == x
	case *mark:
		*x = mark(word)
		return true
	case *pkg:
		*x = pkg(word)
		return semver.IsPkg(word)
	case *api.Pin:
		p, e := semver.ParsePin(word)
		*x = p
		return e == api.OK
	case *int:
		n, e := strconv.Atoi(word)
		*x = n
		return e == nil && n >= 0 && n <= mostNumber && strconv.Itoa(n) == word
	}
	return false
}

// mostNumber is the greatest number that a script tells.
const mostNumber = 999999999
