package parse_test

import (
	"strings"

	"touchstone/api"
	"touchstone/lex"
	"touchstone/semver"
)

// grammar tells a second time what may stand. A part with a + lies one deeper than what it is in; args are gone over by hand; !( asks that no parenthesis comes, as one behind a constructor holds what is its own. An item lies at 0.
const grammar = `
module = | item module
item = import upper = pkg @ version ; | type lower params = con cons ; | alias lower params = type+ ; | let lower ann = expr+ ; | export type lower ; | export lower ann ;
params = | ( var vars )
vars = | , var vars
cons = | '|' con cons
con = upper tyargs
types = | , type+ types
ann = | : type+
type = tyatom arrow
arrow = | -> type+
tyatom = var | lower tyargs | upper . lower tyargs | ( ) | ( type+ types )
tyargs = | ( type+ types )
expr = fun lower -> expr+ | let recursive lower ann = expr+ in expr+ | match expr+ with pat+ -> expr+ arms end | atom args
recursive = | rec
arms = | '|' pat+ -> expr+ arms
atom = int | text | lower | upper . lower | upper exargs | upper . upper exargs | ( ) | ( expr+ behind
behind = : type+ ) | exprs )
exargs = !( | ( expr+ exprs )
exprs = | , expr+ exprs
pat = _ | lower | int | text | upper paargs | upper . upper paargs | ( ) | ( pat+ pats )
paargs = | ( pat+ pats )
pats = | , pat+ pats
`

// part is one of what must still come: what, how deep the thing lies that it is of, and, of args, how many there were.
type part struct {
	name  string
	depth int
	args  int
}

// stack is all that must still come, the next one last.
type stack []part

// rows are the grammar's, by their names: each of the ways in which a thing may be made.
var rows = forms()

func forms() map[string][][]string {
	l := map[string][][]string{}
	for _, line := range strings.Split(strings.TrimSpace(grammar), "\n") {
		words := strings.Fields(line)
		all := [][]string{nil}
		for _, w := range words[2:] {
			if w == "|" {
				all = append(all, nil)
				continue
			}
			all[len(all)-1] = append(all[len(all)-1], strings.Trim(w, "'"))
		}
		l[words[0]] = all
	}
	return l
}

// machine goes through a source by all the ways in which it may be read at once.
type machine struct {
	forms   map[string][][]string
	token   api.Token
	went    []stack // what must still come, behind the token
	limited bool    // something would have to begin that may not
	ended   bool    // nothing need come
}

// with is a stack with some more on it, in order.
func (s stack) with(depth, args int, l ...string) stack {
	s = append(stack{}, s...)
	for i := len(l) - 1; i >= 0; i-- {
		name, deeper := strings.CutSuffix(l[i], "+")
		p := part{name, depth, args}
		if deeper {
			p.depth++
		}
		s = append(s, p)
	}
	return s
}

// step does what a stack may do at the token.
func (m *machine) step(s stack) {
	if len(s) == 0 {
		m.ended = true
		return
	}
	p, rest := s[len(s)-1], s[:len(s)-1]
	isSign := m.token.Kind == api.TokSign
	switch {
	case p.name == "!(":
		if !isSign || m.token.Text != "(" {
			m.step(rest)
		}
	case p.name == "args":
		if p.args == api.MaxArgs {
			m.limited = m.limited || m.beginsAtom()
		} else {
			m.step(rest.with(p.depth, p.args+1, "atom", "args"))
		}
		m.step(rest)
	case p.isThing() && p.depth > api.MaxNest:
		m.limited = true
	case m.forms[p.name] != nil && (!isTerminalToo(p.name) || p.depth > 0):
		for _, form := range m.forms[p.name] {
			m.step(rest.with(p.depth, 0, form...))
		}
	case m.fits(p.name):
		m.went = append(m.went, rest)
	}
}

// isTerminalToo: type is a keyword of items, and what may stand for a type, which lies at 1 at least.
func isTerminalToo(name string) bool { return name == "type" }

func (p part) isThing() bool {
	return p.name == "expr" || p.name == "pat" || p.name == "type" && p.depth > 0
}

func (m *machine) beginsAtom() bool {
	t := m.token
	return t.Kind == api.TokInt || t.Kind == api.TokText || t.Kind == api.TokLower || t.Kind == api.TokUpper || t.Kind == api.TokSign && t.Text == "("
}

func (m *machine) fits(name string) bool {
	t := m.token
	switch t.Kind {
	case api.TokLower:
		return name == "lower" || name == "pkg" && semver.IsPkg(t.Text)
	case api.TokKey, api.TokSign:
		return name == t.Text
	}
	return t.Kind != 0 && name == map[int]string{api.TokUpper: "upper", api.TokVar: "var", api.TokInt: "int", api.TokText: "text", api.TokVersion: "version"}[t.Kind]
}

// fault is what is to be told of a source that begins with a name of the grammar: a byte, and an error.
func fault(s, begin string) (int, api.Errno) {
	tokens, at, e := lex.Lex(s)
	if e != api.OK {
		return at, e
	}
	now := []stack{{part{name: begin, depth: map[string]int{"module": 0, "type": 1, "expr": 1}[begin]}}}
	for _, token := range append(tokens, api.Token{At: len(s)}) {
		m := &machine{forms: rows, token: token}
		for _, x := range now {
			m.step(x)
		}
		switch isEnd := token.Kind == 0; {
		case isEnd && m.ended:
			return 0, api.OK
		case len(m.went) > 0:
		case m.limited:
			return token.At, api.ErrLimit
		default:
			return token.At, api.ErrForm
		}
		now = m.went
	}
	return len(s), api.ErrForm
}
