package command_test

import (
	"math"
	"math/rand/v2"
	"strings"
	"testing"

	"touchstone/api"
	"touchstone/command"
)

// P23.1: bytes that are known.
func TestKnown(t *testing.T) {
	for _, x := range []struct {
		c     api.Command
		bytes string
	}{
		{api.Command{Kind: api.CmdRecover}, "\x09"},
		{api.Command{Kind: api.CmdVersions, Pin: pin("a", 0, 0, 0)}, "\x05\x01a\x00\x00\x00"},
		{api.Command{Kind: api.CmdPublish, Pin: pin("ab", 1, 127, 128), Source: "let"}, "\x01\x02ab\x01\x7F\x80\x01\x03let"},
		{api.Command{Kind: api.CmdYank, Pin: pin("a", 0, 0, 999999)}, "\x02\x01a\x00\x00\xBF\x84\x3D"},
		{api.Command{Kind: api.CmdUnyank, Pin: pin("a", 1, 2, 3)}, "\x03\x01a\x01\x02\x03"},
		{api.Command{Kind: api.CmdQuery, Pin: pin("a", 1, 2, 3)}, "\x04\x01a\x01\x02\x03"},
		{api.Command{Kind: api.CmdClassify, Pin: pin("a", 1, 2, 3), Other: pin("b", 4, 5, 6)}, "\x06\x01a\x01\x02\x03\x01b\x04\x05\x06"},
		{api.Command{Kind: api.CmdClient, Source: "x"}, "\x07\x01x"},
		{api.Command{Kind: api.CmdClient}, "\x07\x00"},
		{api.Command{Kind: api.CmdResolve, Pin: pin("a", 1, 2, 3)}, "\x08\x01a\x01\x02\x03"},
		{api.Command{Kind: api.CmdFsck}, "\x0A"},
	} {
		if s := wantRight(t, x.c); s != x.bytes {
			t.Fatalf("%s: %q", raw(x.c), s)
		}
	}
}

// rights are commands of each kind.
func rights() []api.Command {
	a, b := pin("a", 1, 2, 3), pin("b2", 0, 0, 999999)
	return []api.Command{{Kind: api.CmdPublish, Pin: a, Source: "s"}, {Kind: api.CmdYank, Pin: a}, {Kind: api.CmdUnyank, Pin: a}, {Kind: api.CmdQuery, Pin: a}, {Kind: api.CmdVersions, Pin: pin("a", 0, 0, 0)}, {Kind: api.CmdClassify, Pin: a, Other: b}, {Kind: api.CmdClient, Source: "s"}, {Kind: api.CmdResolve, Pin: a}, {Kind: api.CmdRecover}, {Kind: api.CmdFsck}}
}

func noPins() []api.Pin {
	return []api.Pin{pin("", 1, 2, 3), pin("A", 1, 2, 3), pin("1a", 1, 2, 3), pin("a_", 1, 2, 3), pin(strings.Repeat("a", 21), 1, 2, 3), pin("a", -1, 2, 3), pin("a", 1, -1, 3), pin("a", 1, 2, -1), pin("a", 1000000, 2, 3), pin("a", 1, 1000000, 3), pin("a", 1, 2, 1000000), pin("a", math.MinInt, 0, 0), pin("a", 0, math.MaxInt, 0)}
}

// P23.1: each kind, with each part turned into something that it may not be.
func TestWrong(t *testing.T) {
	for _, c := range rights() {
		wantRight(t, c)
		hasPin := c.Pin != (api.Pin{})
		for _, p := range noPins() {
			x := c
			x.Pin = p
			wantWrong(t, x)
			if hasPin {
				wantBroken(t, told(x))
			}
			x = c
			if x.Other = p; c.Kind == api.CmdClassify {
				wantBroken(t, told(x))
			}
			wantWrong(t, x)
		}
		for _, p := range []api.Pin{pin("b", 1, 0, 0), pin("b", 0, 1, 0), pin("b", 0, 0, 1), pin("b", 0, 0, 0), {}} {
			x := c
			x.Pin = p
			if right := hasPin && p.Pkg != "" && (c.Kind != api.CmdVersions || p.Version == api.Version{}) || !hasPin && p == (api.Pin{}); right != command.Right(x) {
				t.Fatal(raw(x))
			}
			x = c
			x.Other = p
			if right := c.Kind == api.CmdClassify && p.Pkg != "" || c.Kind != api.CmdClassify && p == (api.Pin{}); right != command.Right(x) {
				t.Fatal(raw(x))
			}
		}
		for _, n := range []int{0, 1, api.MaxSource, api.MaxSource + 1} {
			x := c
			x.Source = strings.Repeat("s", n)
			if (c.Kind == api.CmdPublish || c.Kind == api.CmdClient) && n <= api.MaxSource || n == 0 {
				wantRight(t, x)
				continue
			}
			if wantWrong(t, x); n > 1 && (c.Kind == api.CmdPublish || c.Kind == api.CmdClient) {
				wantBroken(t, told(x))
			}
		}
		for _, kind := range []int{0, -1, 11, 12, 128, math.MaxInt, math.MinInt} {
			x := c
			x.Kind = kind
			wantWrong(t, x)
			wantBroken(t, number(kind), number(kind)+told(c)[1:])
		}
	}
	wantWrong(t, api.Command{})
}

// P23.1: which kinds mutate.
func TestMutates(t *testing.T) {
	for kind := -3; kind < 20; kind++ {
		if command.Mutates(kind) != (kind == api.CmdPublish || kind == api.CmdYank || kind == api.CmdUnyank) {
			t.Fatal(kind)
		}
	}
	if command.Mutates(math.MinInt) || command.Mutates(1+1<<32) {
		t.Fatal("Mutates")
	}
}

const huge = "\xFF\xFF\xFF\xFF\xFF\xFF\xFF\xFF\xFF\x01"

// P23.1: bytes cut off, with one more, turned, numbers in more bytes than they need.
func TestBroken(t *testing.T) {
	wantBroken(t, "", "\x00", "\x0B", huge, "\x01", "\x05\x01a\x00\x00\x01", "\x01\x01a\x01\x02\x03"+huge+"s", "\x01"+huge+"a\x01\x02\x03\x00", "\x02\x01a\x01\x02"+huge, "\x81\x80\x80\x80\x80\x80\x80\x80\x80\x02\x01a\x01\x02\x03")
	for _, c := range rights() {
		s := told(c)
		for i := range len(s) {
			wantBroken(t, s[:i], s[:i]+string([]byte{s[i] | 0x80, 0})+s[i+1:])
			for b := range 256 {
				x := s[:i] + string([]byte{byte(b)}) + s[i+1:]
				if got, e := command.Decode(x); e == api.OK {
					if again, err := command.Encode(got); err != api.OK || again != x || !command.Right(got) || x != s && got == c {
						t.Fatalf("%q: %s, %q, %v", x, raw(got), again, err)
					}
				} else {
					wantBroken(t, x)
				}
			}
		}
		for b := range 256 {
			wantBroken(t, s+string([]byte{byte(b)}))
		}
	}
}

// P23.2: answers' bytes that are known.
func TestKnownAnswers(t *testing.T) {
	if s := wantAnswer(t, api.Answer{}); s != strings.Repeat("\x00", 13) {
		t.Fatalf("%q", s)
	}
	full := api.Answer{Err: api.ErrLabel, At: -1, Gap: api.GapMajor, Change: api.Change{Kind: 6, Name: "t", Con: "A"}, Pins: []api.Pin{pin("a", 1, -2, 64), pin("", 0, 0, 0)}, Text: "xy", Yanked: true, Report: api.Report{Segments: 1, Records: 2, Loose: -3, Strange: 400}}
	if s := wantAnswer(t, full); s != "\x26\x01\x06\x0C\x01t\x01A\x02\x01a\x02\x03\x80\x01\x00\x00\x00\x00\x02xy\x01\x02\x04\x05\xA0\x06" {
		t.Fatalf("%q", s)
	}
	for _, n := range []int{0, 1, -1, 63, 64, -64, -65, 127, 128, math.MaxInt, math.MinInt} {
		for i := range 12 {
			a := api.Answer{Pins: []api.Pin{{}}}
			fields := []*int{(*int)(&a.Err), &a.At, &a.Gap, &a.Change.Kind, &a.Pins[0].Major, &a.Pins[0].Minor, &a.Pins[0].Patch, &a.Report.Segments, &a.Report.Records, &a.Report.Loose, &a.Report.Strange, &a.At}
			*fields[i] = n
			wantAnswer(t, a)
		}
	}
	for _, n := range []int{1, 127, 128, 300, api.MaxSource, 1 << 17} {
		s := strings.Repeat("\xFF", n)
		wantAnswer(t, api.Answer{Text: s, Change: api.Change{Name: s, Con: s}, Pins: make([]api.Pin, min(n, 3000))})
	}
}

// P23.2: bytes that are no answer's.
func TestBrokenAnswers(t *testing.T) {
	wantBrokenAnswer(t, "", "\x00", strings.Repeat("\x00", 12), strings.Repeat("\x00", 14), strings.Repeat("\x00", 6)+huge, strings.Repeat("\x00", 6)+huge+strings.Repeat("\x00", 1000), strings.Repeat("\x00", 8)+"\x02\x00\x00\x00\x00", strings.Repeat("\x00", 8)+huge+"\x00\x00\x00\x00", strings.Repeat("\x00", 7)+huge)
	a := api.Answer{Err: 1, At: 70, Gap: 2, Change: api.Change{Kind: 3, Name: "n", Con: "C"}, Pins: []api.Pin{pin("p", 1, 2, 300), pin("q", 0, 0, 0)}, Text: "t\n", Yanked: true, Report: api.Report{Segments: 1, Records: 2, Loose: 3, Strange: 4}}
	s := wantAnswer(t, a)
	for i := range len(s) {
		wantBrokenAnswer(t, s[:i], s[:i]+string([]byte{s[i] | 0x80, 0})+s[i+1:])
		for b := range 256 {
			x := s[:i] + string([]byte{byte(b)}) + s[i+1:]
			if got, e := command.Answer(x); e == api.OK {
				if command.Told(got) != x || x != s && raw(got) == raw(a) {
					t.Fatalf("%q: %s", x, raw(got))
				}
			} else {
				wantBrokenAnswer(t, x)
			}
		}
	}
	for b := range 256 {
		wantBrokenAnswer(t, s+string([]byte{byte(b)}))
	}
}

// P23.3: any commands and answers come back.
func TestBack(t *testing.T) {
	d := rand.New(rand.NewPCG(23, 3))
	for range 5000 {
		wantRight(t, someCommand(d))
		wantAnswer(t, someAnswer(d))
	}
}
