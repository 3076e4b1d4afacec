package lex_test

import (
	"math/rand/v2"
	"regexp"
	"slices"
	"strings"
	"testing"

	"touchstone/api"
	"touchstone/lex"
)

// P6.3: Lex of Tell is the tokens, but for At.
func TestBack(t *testing.T) {
	d := rand.New(rand.NewPCG(6, 1))
	for range 4000 {
		l := someTokens(d, 30)
		for i := range l {
			l[i].At = d.IntN(1000) - 500
		}
		told, e := lex.Tell(l...)
		if e != api.OK {
			t.Fatalf("Tell(%v): %v", l, e)
		}
		got, at, e := lex.Lex(told)
		if !slices.Equal(placeless(got), placeless(l)) || at != 0 || e != api.OK {
			t.Fatalf("Lex(%q): %v, %d, %v, not %v", told, got, at, e, l)
		}
	}
}

// P6.3: so it is up to the limits; beyond them Lex tells ErrLimit.
func TestBackLimits(t *testing.T) {
	l := slices.Repeat([]api.Token{sign(0, "=")}, api.MaxTokens)
	told, e := lex.Tell(l...)
	if got, _, e2 := lex.Lex(told); e != api.OK || e2 != api.OK || !slices.Equal(placeless(got), l) {
		t.Fatalf("%v, %v", e, e2)
	}
	told, e = lex.Tell(append(l, sign(0, "="))...)
	if _, at, e2 := lex.Lex(told); e != api.OK || e2 != api.ErrLimit || at != 2*api.MaxTokens {
		t.Fatalf("%v, %v, %d", e, e2, at)
	}
	l = slices.Repeat([]api.Token{text(0, strings.Repeat("\n", maxText))}, 10)
	told, e = lex.Tell(l...)
	if _, at, e2 := lex.Lex(told); e != api.OK || e2 != api.ErrLimit || at != 0 {
		t.Fatalf("%v, %v, %d", e, e2, at)
	}
	told, e = lex.Tell(l[:9]...)
	if got, _, e2 := lex.Lex(told); e != api.OK || e2 != api.OK || !slices.Equal(placeless(got), l[:9]) {
		t.Fatalf("%v, %v", e, e2)
	}
}

// between is what may stand between tokens, at least a blank.
func someBetween(d *rand.Rand) string {
	s := []string{" ", "\n", "\t", "--\n", " -- # \" ' \\ \xFF\n\n", "\n \t", "----> a = 1\n"}[d.IntN(7)]
	for d.IntN(3) == 0 {
		s += []string{" ", "\n", "\t"}[d.IntN(3)]
	}
	return s
}

// someSource is one of these tokens, and the bytes where they begin.
func someSource(d *rand.Rand, l []api.Token) (string, []api.Token) {
	s := ""
	l = slices.Clone(l)
	for i, x := range l {
		if d.IntN(4) > 0 || i > 0 && !apart(l[i-1], x) {
			s += someBetween(d)
		}
		l[i].At = len(s)
		told, _ := lex.Tell(x)
		s += told
	}
	return s + []string{"", " ", "-- a", "\n"}[d.IntN(4)], l
}

// apart tells whether two tokens need nothing between them.
func apart(a, b api.Token) bool {
	isSign := func(x api.Token) bool { return x.Kind == api.TokSign && x.Text != "_" && x.Text != "." }
	return isSign(a) || isSign(b) || a.Kind == api.TokText || b.Kind == api.TokText
}

// P6.4, P6.5: tokens with anything between them are read at their places; told, they are read again.
func TestSources(t *testing.T) {
	d := rand.New(rand.NewPCG(6, 2))
	for range 4000 {
		s, l := someSource(d, someTokens(d, 25))
		wantLex(t, s, l...)
		wantAgain(t, s)
		wantPlaces(t, s)
	}
}

// wantAgain asks P6.4 of a source.
func wantAgain(t *testing.T, s string) {
	t.Helper()
	l, _, e := lex.Lex(s)
	if e != api.OK {
		return
	}
	told, e := lex.Tell(l...)
	if e != api.OK {
		t.Fatalf("Tell of Lex(%q): %v", s, e)
	}
	again, at, e := lex.Lex(told)
	if at != 0 || e != api.OK || !slices.Equal(placeless(again), placeless(l)) {
		t.Fatalf("%q: %v, told %q, is read as %v, %d, %v", s, l, told, again, at, e)
	}
	if twice, e := lex.Tell(again...); twice != told || e != api.OK {
		t.Fatalf("%q: told %q, then %q, %v", s, told, twice, e)
	}
}

var gap = regexp.MustCompile(`^(?:[ \t\n]|--[^\n]*(?:\n|$))*$`)

// wantPlaces asks P6.5 of a source.
func wantPlaces(t *testing.T, s string) {
	t.Helper()
	l, _, e := lex.Lex(s)
	if e != api.OK {
		return
	}
	at := 0
	for i, x := range l {
		told, _ := lex.Tell(x)
		if x.At < at || !gap.MatchString(s[at:x.At]) || !strings.HasPrefix(s[x.At:], told) || told == "" || !lex.Right(x) {
			t.Fatalf("%q: %v, told %q, at %d, behind %d", s, x, told, i, at)
		}
		at = x.At + len(told)
	}
	if !gap.MatchString(s[at:]) {
		t.Fatalf("%q: nothing is told behind %d", s, at)
	}
}

// P6.4, P6.5: so it is of all that is read, whatever it is made of; of what is not, all that stands ahead of its byte is read alone, unless a token may go on there.
func TestAnySource(t *testing.T) {
	d := rand.New(rand.NewPCG(6, 3))
	right := 0
	for range 30000 {
		s := ""
		for range 1 + d.IntN(6) {
			switch d.IntN(3) {
			case 0:
				s += some(d, "aA_'7.-> \n\"\\=", 1, 3)
			case 1:
				told, _ := lex.Tell(someToken(d))
				s += told
			default:
				s += someBetween(d)
			}
		}
		wantAgain(t, s)
		wantPlaces(t, s)
		_, at, e := lex.Lex(s)
		if e == api.OK {
			right++
			continue
		}
		if _, _, ahead := lex.Lex(s[:at]); e != api.ErrForm || ahead != api.OK {
			t.Fatalf("Lex(%q): %d, %v; of what is ahead: %v", s, at, e, ahead)
		}
		if _, own, e := lex.Lex(s[at:]); e != api.ErrForm || own != 0 {
			t.Fatalf("Lex(%q): at %d; of what stands there: %d, %v", s, at, own, e)
		}
	}
	if right < 1000 || right > 29000 {
		t.Fatalf("%d are right", right)
	}
}

// P6.5: At rises also where nothing stands between.
func TestPlacesClose(t *testing.T) {
	wantLex(t, "(a,'b)->C.d;\"e\"\"f\"|1@g", sign(0, "("), lower(1, "a"), sign(2, ","), variable(3, "b"), sign(5, ")"), sign(6, "->"), upper(8, "C"), sign(9, "."), lower(10, "d"),
		sign(11, ";"), text(12, "e"), text(15, "f"), sign(18, "|"), number(19, 1), sign(20, "@"), lower(21, "g"))
	for _, s := range []string{"a", " a", "\n\na", "--\na", "a=b", "\"\\n\\t\"=\"\\\\\"", "-1-2-3", "_=_", "1.2.3=4.5.6"} {
		wantPlaces(t, s)
		wantAgain(t, s)
	}
}
