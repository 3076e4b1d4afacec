package command_test

import (
	"encoding/binary"
	"fmt"
	"math"
	"math/rand/v2"
	"strings"
	"testing"

	"touchstone/api"
	"touchstone/command"
)

// raw is all that is in a thing, as a text; lists that are nil and empty are alike.
func raw(x any) string { return fmt.Sprintf("%+v", x) }

func version(major, minor, patch int) api.Version {
	return api.Version{Major: major, Minor: minor, Patch: patch}
}

func pin(pkg string, major, minor, patch int) api.Pin {
	return api.Pin{Pkg: pkg, Version: version(major, minor, patch)}
}

// number, zigzag and text tell the bytes of chapter 2, by other means than the program's.
func number(n int) string  { return string(binary.AppendUvarint(nil, uint64(n))) }
func zigzag(n int) string  { return string(binary.AppendVarint(nil, int64(n))) }
func text(s string) string { return number(len(s)) + s }

func pinBytes(p api.Pin, told func(int) string) string {
	return text(p.Pkg) + told(p.Major) + told(p.Minor) + told(p.Patch)
}

// told tells a command's bytes a second time, also of what is not right.
func told(c api.Command) string {
	s := number(c.Kind)
	switch c.Kind {
	case api.CmdPublish:
		return s + pinBytes(c.Pin, number) + text(c.Source)
	case api.CmdClient:
		return s + text(c.Source)
	case api.CmdClassify:
		return s + pinBytes(c.Pin, number) + pinBytes(c.Other, number)
	case api.CmdYank, api.CmdUnyank, api.CmdQuery, api.CmdVersions, api.CmdResolve:
		return s + pinBytes(c.Pin, number)
	}
	return s
}

func toldAnswer(a api.Answer) string {
	s := zigzag(int(a.Err)) + zigzag(a.At) + zigzag(a.Gap) + zigzag(a.Change.Kind) + text(a.Change.Name) + text(a.Change.Con) + number(len(a.Pins))
	for _, p := range a.Pins {
		s += pinBytes(p, zigzag)
	}
	s += text(a.Text) + map[bool]string{false: "\x00", true: "\x01"}[a.Yanked]
	return s + zigzag(a.Report.Segments) + zigzag(a.Report.Records) + zigzag(a.Report.Loose) + zigzag(a.Report.Strange)
}

// wantRight asks that a command is right, and comes back from its bytes.
func wantRight(t *testing.T, c api.Command) string {
	t.Helper()
	s, e := command.Encode(c)
	if !command.Right(c) || e != api.OK || s != told(c) {
		t.Fatalf("%.200s: %v, %.100q, %v", raw(c), command.Right(c), s, e)
	}
	if back, e := command.Decode(s); e != api.OK || back != c {
		t.Fatalf("%.200s comes back as %.200s, %v", raw(c), raw(back), e)
	}
	return s
}

func wantWrong(t *testing.T, c api.Command) {
	t.Helper()
	if s, e := command.Encode(c); command.Right(c) || e != api.ErrArg || s != "" {
		t.Fatalf("%.200s: %v, %.100q, %v", raw(c), command.Right(c), s, e)
	}
}

func wantBroken(t *testing.T, l ...string) {
	t.Helper()
	for _, s := range l {
		if c, e := command.Decode(s); e != api.ErrBroken || c != (api.Command{}) {
			t.Fatalf("%.200q: %.200s, %v", s, raw(c), e)
		}
	}
}

func wantBrokenAnswer(t *testing.T, l ...string) {
	t.Helper()
	for _, s := range l {
		if a, e := command.Answer(s); e != api.ErrBroken || raw(a) != raw(api.Answer{}) {
			t.Fatalf("%.200q: %.200s, %v", s, raw(a), e)
		}
	}
}

func wantAnswer(t *testing.T, a api.Answer) string {
	t.Helper()
	before := raw(a)
	s := command.Told(a)
	if s != toldAnswer(a) || raw(a) != before {
		t.Fatalf("%.300s: %.200q", before, s)
	}
	if back, e := command.Answer(s); e != api.OK || raw(back) != before {
		t.Fatalf("%.300s comes back as %.300s, %v", before, raw(back), e)
	}
	return s
}

func pick[T any](d *rand.Rand, l ...T) T { return l[d.IntN(len(l))] }

func someNumber(d *rand.Rand) int {
	return pick(d, 0, 1, -1, 63, 64, -64, -65, 127, 128, 16383, 16384, api.MaxNumber, math.MaxInt, math.MinInt, d.IntN(1000))
}

func someVersion(d *rand.Rand) api.Version {
	n := func() int { return pick(d, 0, 1, 127, 128, 16383, 16384, api.MaxNumber, d.IntN(api.MaxNumber)) }
	return version(n(), n(), n())
}

// someCommand is a right one.
func someCommand(d *rand.Rand) api.Command {
	c := api.Command{Kind: 1 + d.IntN(10)}
	somePin := func() api.Pin {
		return api.Pin{Pkg: pick(d, "a", "list", "b2", strings.Repeat("z", 20)), Version: someVersion(d)}
	}
	switch c.Kind {
	case api.CmdClassify:
		c.Pin, c.Other = somePin(), somePin()
	case api.CmdVersions:
		c.Pin.Pkg = somePin().Pkg
	case api.CmdPublish:
		c.Pin, c.Source = somePin(), pick(d, "", "x", "\x00\xFF\n", strings.Repeat("s", 127), strings.Repeat("s", 128), strings.Repeat("s", api.MaxSource))
	case api.CmdClient:
		c.Source = pick(d, "", "let x = 1;", strings.Repeat("s", api.MaxSource))
	case api.CmdRecover, api.CmdFsck:
	default:
		c.Pin = somePin()
	}
	return c
}

func someAnswer(d *rand.Rand) api.Answer {
	n := func() int { return someNumber(d) }
	s := func() string { return pick(d, "", "f", "text\n", strings.Repeat("t", 200)) }
	a := api.Answer{Err: api.Errno(n()), At: n(), Gap: n(), Change: api.Change{Kind: n(), Name: s(), Con: s()}, Text: s(), Yanked: d.IntN(2) == 0, Report: api.Report{Segments: n(), Records: n(), Loose: n(), Strange: n()}}
	for range d.IntN(4) {
		a.Pins = append(a.Pins, pin(s(), n(), n(), n()))
	}
	return a
}
