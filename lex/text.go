package lex

import (
	"strconv"
	"strings"

	"touchstone/api"
)

const (
	quote   = '"'
	escape  = '\\'
	maxText = 1000 // bytes that a text says
)

// escapes are the letters that stand behind an escape, and what they say.
var escapes = [...]struct{ letter, says byte }{{escape, escape}, {quote, quote}, {'n', '\n'}, {'t', '\t'}}

func firstText(s string) (api.Token, int) {
	var said strings.Builder
	for i := 1; i < len(s) && said.Len() <= maxText; i++ {
		c := s[i]
		switch {
		case c == quote:
			return api.Token{Kind: api.TokText, Text: said.String()}, i + 1
		case c < ' ' || c > '~':
			return api.Token{}, 0
		case c == escape:
			i++
			says, known := unescape(s[i:])
			if !known {
				return api.Token{}, 0
			}
			c = says
		}
		said.WriteByte(c)
	}
	return api.Token{}, 0
}

// unescape is what the letter behind an escape says.
func unescape(s string) (byte, bool) {
	for _, x := range escapes {
		if s != "" && s[0] == x.letter {
			return x.says, true
		}
	}
	return 0, false
}

// tell is a token's text, without a look at whether it may be one.
func tell(t api.Token) string {
	switch t.Kind {
	case api.TokVar:
		return mark + t.Text
	case api.TokInt:
		return strconv.Itoa(t.N)
	case api.TokText:
		return tellText(t.Text)
	}
	return t.Text
}

func tellText(s string) string {
	told := []byte{quote}
	for i := range len(s) {
		c := s[i]
		for _, x := range escapes {
			if c == x.says {
				told = append(told, escape)
				c = x.letter
				break
			}
		}
		told = append(told, c)
	}
	return string(append(told, quote))
}
