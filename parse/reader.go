package parse

import "touchstone/api"

// reader has the tokens that are still to read.
type reader struct {
	tokens []api.Token
	end    int // the source's length
}

// fault ends a reader by a panic: an error, and the byte of the token at which it came.
type fault struct {
	at  int
	err api.Errno
}

func (r *reader) fault(e api.Errno) fault { return fault{r.next().At, e} }

// next is the token that comes. Behind all of them it is one of no kind.
func (r *reader) next() api.Token {
	if len(r.tokens) == 0 {
		return api.Token{At: r.end}
	}
	return r.tokens[0]
}

// take is the text of the token that comes, which must be of a kind.
func (r *reader) take(kind int) string {
	t := r.next()
	if t.Kind != kind {
		panic(r.fault(api.ErrForm))
	}
	r.tokens = r.tokens[1:]
	return t.Text
}

func (r *reader) is(kind int, text string) bool {
	t := r.next()
	return t.Kind == kind && t.Text == text
}

// skip goes behind the token that comes, if it is this one.
func (r *reader) skip(kind int, text string) bool {
	if !r.is(kind, text) {
		return false
	}
	r.take(kind)
	return true
}

func (r *reader) skipKey(text string) bool  { return r.skip(api.TokKey, text) }
func (r *reader) skipSign(text string) bool { return r.skip(api.TokSign, text) }

func (r *reader) key(text string) {
	if !r.skipKey(text) {
		panic(r.fault(api.ErrForm))
	}
}

func (r *reader) sign(text string) {
	if !r.skipSign(text) {
		panic(r.fault(api.ErrForm))
	}
}

// begin asks whether a type, an expression or a pattern may lie so deep, ahead of all that its first token may be asked.
func (r *reader) begin(depth int) {
	if depth > api.MaxNest {
		panic(r.fault(api.ErrLimit))
	}
}

// qualifier is the great name that comes, if a point is behind it; else nothing is read.
func (r *reader) qualifier() string {
	behind := &reader{tokens: r.tokens[1:]}
	if !behind.is(api.TokSign, ".") {
		return ""
	}
	name := r.take(api.TokUpper)
	r.sign(".")
	return name
}

// several reads one thing or more, with a sign between them.
func several[T any](r *reader, between string, one func() T) []T {
	l := []T{one()}
	for r.skipSign(between) {
		l = append(l, one())
	}
	return l
}

// held reads what something holds, which is one thing or more in parentheses, or nothing at all.
func held[T any](r *reader, one func() T) []T {
	if !r.skipSign("(") {
		return nil
	}
	l := several(r, ",", one)
	r.sign(")")
	return l
}

// opened reads a parenthesis, and all that stands behind it, but the one that ends it.
func (r *reader) opened(one func() api.Term) []api.Term {
	r.sign("(")
	if r.is(api.TokSign, ")") {
		return nil
	}
	return several(r, ",", one)
}

// closed reads the parenthesis that ends one. One thing in parentheses is itself, none or several are a tuple.
func (r *reader) closed(kind int, l []api.Term) api.Term {
	r.sign(")")
	if len(l) == 1 {
		return l[0]
	}
	return api.Term{Kind: kind, Kids: l}
}
