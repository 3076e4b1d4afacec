package lex_test

import (
	"fmt"
	"math/rand/v2"
	"regexp"
	"slices"
	"strconv"
	"strings"
	"testing"

	"touchstone/api"
	"touchstone/lex"
)

func token(kind, at int, text string) api.Token { return api.Token{Kind: kind, Text: text, At: at} }

func lower(at int, s string) api.Token    { return token(api.TokLower, at, s) }
func upper(at int, s string) api.Token    { return token(api.TokUpper, at, s) }
func variable(at int, s string) api.Token { return token(api.TokVar, at, s) }
func text(at int, s string) api.Token     { return token(api.TokText, at, s) }
func version(at int, s string) api.Token  { return token(api.TokVersion, at, s) }
func key(at int, s string) api.Token      { return token(api.TokKey, at, s) }
func sign(at int, s string) api.Token     { return token(api.TokSign, at, s) }
func number(at, n int) api.Token          { return api.Token{Kind: api.TokInt, N: n, At: at} }

// keywords and signs are those of the chapter.
func keywords() []string {
	return strings.Fields("import type alias let rec in fun match with end export")
}

func signs() []string { return strings.Fields("= | -> ( ) , ; : . @ _") }

// nameBytes are those of the chapter, told a second time.
const nameBytes = "ABCDEFGHIJKLMNOPQRSTUVWXYZabcdefghijklmnopqrstuvwxyz0123456789_'"

const maxText = 1000

func wantLex(t *testing.T, s string, wanted ...api.Token) {
	t.Helper()
	if got, at, e := lex.Lex(s); !slices.Equal(got, wanted) || at != 0 || e != api.OK {
		t.Fatalf("Lex(%.80q): %.200v, %d, %v, not %.200v", s, got, at, e, wanted)
	}
}

func wantFault(t *testing.T, s string, at int, wanted api.Errno) {
	t.Helper()
	if got, gotAt, e := lex.Lex(s); len(got) > 0 || gotAt != at || e != wanted {
		t.Fatalf("Lex(%.80q): %.200v, %d, %v, not %d, %v", s, got, gotAt, e, at, wanted)
	}
}

func wantForm(t *testing.T, s string, at int) {
	t.Helper()
	wantFault(t, s, at, api.ErrForm)
}

func wantTell(t *testing.T, told string, l ...api.Token) {
	t.Helper()
	if got, e := lex.Tell(l...); got != told || e != api.OK {
		t.Fatalf("Tell(%.200v): %.200q, %v, not %.200q", l, got, e, told)
	}
}

func wantRight(t *testing.T, l ...api.Token) {
	t.Helper()
	for _, x := range l {
		if _, e := lex.Tell(x); !lex.Right(x) || e != api.OK {
			t.Fatalf("%.200v: Right %v, Tell %v", x, lex.Right(x), e)
		}
	}
}

func wantWrong(t *testing.T, l ...api.Token) {
	t.Helper()
	for _, x := range l {
		if told, e := lex.Tell(x); lex.Right(x) || told != "" || e != api.ErrArg {
			t.Fatalf("%.200v: Right %v, Tell %.80q, %v", x, lex.Right(x), told, e)
		}
	}
}

// texts are all texts of these letters with at most n of them.
func texts(letters string, n int) []string {
	l := []string{""}
	for i := 0; i < len(l); i++ {
		if len(l[i]) < n {
			for _, c := range []byte(letters) {
				l = append(l, l[i]+string([]byte{c}))
			}
		}
	}
	return l
}

// The forms of the chapter's tokens, told a second time; how long they may be is asked behind them.
var forms = func() map[int]*regexp.Regexp {
	const n = `(?:0|[1-9][0-9]{0,5})`
	l := map[int]*regexp.Regexp{
		api.TokLower:   regexp.MustCompile(`^(?:[a-z]|_[A-Za-z0-9_'])[A-Za-z0-9_']*`),
		api.TokUpper:   regexp.MustCompile(`^[A-Z][A-Za-z0-9_']*`),
		api.TokVar:     regexp.MustCompile(`^'[a-z][A-Za-z0-9_]*`),
		api.TokInt:     regexp.MustCompile(`^(?:0|-?[1-9][0-9]*)`),
		api.TokText:    regexp.MustCompile(`^"(?:[ !#-\[\]-~]|\\[\\"nt])*"`),
		api.TokVersion: regexp.MustCompile(`^` + n + `\.` + n + `\.` + n),
		api.TokSign:    regexp.MustCompile(`^(?:->|[=|(),;:.@_])`),
	}
	for _, x := range l {
		x.Longest()
	}
	return l
}()

var between = regexp.MustCompile(`^(?:[ \t\n]|--[^\n]*(?:\n|$))*`)

// read is the token of a kind whose text is told, and whether it is not too long.
func read(kind int, told string) (api.Token, bool) {
	t := api.Token{Kind: kind, Text: told}
	most := api.MaxIdent
	switch kind {
	case api.TokLower:
		if slices.Contains(keywords(), told) {
			t.Kind = api.TokKey
		}
	case api.TokVar:
		t.Text = told[1:]
		return t, len(told) <= most
	case api.TokInt:
		t.Text = ""
		t.N, _ = strconv.Atoi(told)
		return t, len(strings.TrimPrefix(told, "-")) <= 18
	case api.TokText:
		t.Text = strings.NewReplacer(`\\`, `\`, `\"`, `"`, `\n`, "\n", `\t`, "\t").Replace(told[1 : len(told)-1])
		most = maxText
	}
	return t, len(t.Text) <= most
}

// twin tells P6.1 a second time: at each place the longest one counts.
func twin(s string) ([]api.Token, int, api.Errno) {
	if len(s) > api.MaxSource {
		return nil, 0, api.ErrLimit
	}
	var l []api.Token
	for at := len(between.FindString(s)); at < len(s); {
		told, kind := "", 0
		for k, form := range forms {
			if x := form.FindString(s[at:]); len(x) > len(told) {
				told, kind = x, k
			}
		}
		if kind == 0 {
			return nil, at, api.ErrForm
		}
		t, fits := read(kind, told)
		if !fits {
			return nil, at, api.ErrForm
		}
		if len(l) == api.MaxTokens {
			return nil, at, api.ErrLimit
		}
		t.At = at
		l = append(l, t)
		at += len(told)
		at += len(between.FindString(s[at:]))
	}
	return l, 0, api.OK
}

func wantTwin(t *testing.T, s string) {
	t.Helper()
	if l, at, e := twin(s); e == api.OK {
		wantLex(t, s, l...)
	} else {
		wantFault(t, s, at, e)
	}
}

func some(d *rand.Rand, letters string, least, most int) string {
	b := make([]byte, least+d.IntN(most-least+1))
	for i := range b {
		b[i] = letters[d.IntN(len(letters))]
	}
	return string(b)
}

const (
	smallLetters = "abcdefghijklmnopqrstuvwxyz"
	greatLetters = "ABCDEFGHIJKLMNOPQRSTUVWXYZ"
	sayable      = " !\"#$%&'()*+,-./0123456789:;<=>?@ABCDEFGHIJKLMNOPQRSTUVWXYZ[\\]^_`abcdefghijklmnopqrstuvwxyz{|}~\n\t\n\t\"\\\"\\"
)

// someToken is a right one of any kind.
func someToken(d *rand.Rand) api.Token {
	switch kind := 1 + d.IntN(8); kind {
	case api.TokLower:
		s := some(d, smallLetters, 1, 1) + some(d, nameBytes, 0, 29)
		if d.IntN(4) == 0 {
			s = "_" + some(d, nameBytes, 1, 29)
		}
		if slices.Contains(keywords(), s) {
			s += "'"
		}
		return token(kind, 0, s)
	case api.TokUpper:
		return token(kind, 0, some(d, greatLetters, 1, 1)+some(d, nameBytes, 0, 29))
	case api.TokVar:
		return token(kind, 0, some(d, smallLetters, 1, 1)+some(d, strings.Trim(nameBytes, "'"), 0, 28))
	case api.TokInt:
		return number(0, someInt(d))
	case api.TokText:
		return token(kind, 0, some(d, sayable, 0, 40))
	case api.TokVersion:
		return token(kind, 0, fmt.Sprintf("%d.%d.%d", d.IntN(3), d.IntN(1000), d.IntN(api.MaxNumber+1)))
	case api.TokKey:
		return token(kind, 0, keywords()[d.IntN(len(keywords()))])
	default:
		return token(kind, 0, signs()[d.IntN(len(signs()))])
	}
}

const mostInt = 999999999999999999

func someInt(d *rand.Rand) int {
	n := d.IntN(mostInt + 1)
	for range d.IntN(20) {
		n /= 10
	}
	if d.IntN(2) == 0 {
		n = -n
	}
	return n
}

func someTokens(d *rand.Rand, most int) []api.Token {
	var l []api.Token
	for range d.IntN(most + 1) {
		l = append(l, someToken(d))
	}
	return l
}

// placeless are tokens without the bytes where they begin.
func placeless(l []api.Token) []api.Token {
	l = slices.Clone(l)
	for i := range l {
		l[i].At = 0
	}
	return l
}
