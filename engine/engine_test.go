package engine_test

import (
	"strings"
	"testing"

	"touchstone/api"
	"touchstone/command"
	"touchstone/engine"
	"touchstone/journal"
	"touchstone/vfs"
)

const (
	f = "let f = fun x -> (x : int); export f;"
	g = "let f = fun x -> x; let g = 1; export f; export g;"
)

// P24.1: a store that is made ready, and opened; errors of both.
func TestOpen(t *testing.T) {
	if e := engine.Format(nil); e != api.ErrNil {
		t.Fatal(e)
	}
	fs, _ := vfs.New(100)
	wantNoEngine := func(fs *vfs.FS, wanted api.Errno) {
		t.Helper()
		if x, e := engine.Open(fs); x != nil || e != wanted {
			t.Fatal(x, e, wanted)
		}
	}
	wantNoEngine(nil, api.ErrNil)
	wantNoEngine(fs, api.ErrNone)
	if e := engine.Format(fs); e != api.OK {
		t.Fatal(e)
	}
	if e := engine.Format(fs); e != api.ErrThere {
		t.Fatal(e)
	}
	x := open(t, fs)
	if len(x.All()) > 0 || x.Records() != 0 || x.Stopped() {
		t.Fatal(look(x))
	}
	fs.Fail(0)
	wantNoEngine(fs, api.ErrIO)
	open(t, fs)
	fs.Power(0)
	wantNoEngine(fs, api.ErrPower)
	wantNoEngine(fs, api.ErrPower)
	small, _ := vfs.New(1)
	small.Write("x", 0, []byte("x"))
	if e := engine.Format(small); e != api.ErrSpace {
		t.Fatal(e)
	}
}

// P24.1: records that are no commands that mutate, or that the index refuses.
func TestBrokenRecords(t *testing.T) {
	encoded := func(s string) string {
		b, e := command.Encode(cmd(t, s))
		if e != api.OK {
			t.Fatal(s, e)
		}
		return b
	}
	right := []string{encoded("publish a@1.0.0 " + f), encoded("yank a@1.0.0")}
	wantBroken := func(l ...string) {
		t.Helper()
		fs, _ := vfs.New(100)
		engine.Format(fs)
		j, _ := journal.Open(fs)
		for _, s := range l {
			if e := j.Append(s); e != api.OK {
				t.Fatal(e)
			}
		}
		if x, e := engine.Open(fs); x != nil || e != api.ErrBroken {
			t.Fatalf("%q: %v", l, e)
		}
	}
	for _, wrong := range []string{"", "x", "\x00", right[0] + "\x00", right[0][:len(right[0])-1], encoded("query a@1.0.0"), encoded("recover"), encoded("fsck"), encoded("versions a"), encoded("client "), encoded("resolve a@1.0.0"), encoded("classify a@1.0.0 a@1.0.0")} {
		wantBroken(wrong)
		wantBroken(right[0], wrong)
		wantBroken(wrong, right[0])
		wantBroken(right[0], right[1], wrong)
	}
	for _, wrong := range []string{right[0], right[1], encoded("unyank a@1.0.1"), encoded("yank b@1.0.0"), encoded("publish a@1.0.1 " + g), encoded("publish b@1.0.0 let x = ;"), encoded("publish b@1.0.0 import A = a@1.0.7;"), encoded("publish a@1.0.2 import A = a@1.0.0;")} {
		wantBroken(right[0], right[1], wrong)
	}
	wantBroken(right[1], right[0])
}

// P24.2: publishes and yanks, with each error of the index.
func TestChange(t *testing.T) {
	x, fs := some(t, "publish a@1.0.0 "+f, "publish b@1.0.0 import A = a@1.0.0; let h = A.f; export h;", "yank a@1.0.0")
	want(t, x, "publish a@1.1.0 let x = ;", api.Answer{Err: api.ErrForm, At: 8})
	want(t, x, "publish c@1.1.0 import A = a@1.0.0; let f = A.f 1 2", api.Answer{Err: api.ErrForm, At: 35})
	wantErr(t, x, api.ErrThere, "publish a@1.0.0 "+f, "publish a@1.0.0 let x = ;", "yank a@1.0.0", "unyank b@1.0.0")
	wantErr(t, x, api.ErrNone, "yank a@1.0.1", "unyank c@1.0.0")
	wantErr(t, x, api.ErrPin, "publish c@1.0.0 import A = a@1.0.1;")
	wantErr(t, x, api.ErrName, "publish c@1.0.0 let x = y;")
	wantErr(t, x, api.ErrType, "publish c@1.0.0 let x = 1 1;")
	wantErr(t, x, api.ErrCycle, "publish a@1.1.0 import B = b@1.0.0;")
	if x.Records() != 3 {
		t.Fatal(x.Records())
	}
	want(t, x, "unyank a@1.0.0", api.Answer{})
	want(t, x, "publish a@1.1.0 "+g, api.Answer{})
	if wanted := told(t, cmd(t, "publish a@1.0.0 "+f), cmd(t, "publish b@1.0.0 import A = a@1.0.0; let h = A.f; export h;"), cmd(t, "publish a@1.1.0 "+g)); raw(x.All()) != wanted || raw(open(t, fs).All()) != wanted || x.Records() != 5 {
		t.Fatalf("%s, not %s", raw(x.All()), wanted)
	}
}

// P24.2: what is told with ErrLabel, by the neighbour below, and by the one above.
func TestLabel(t *testing.T) {
	x, _ := some(t, "publish a@1.0.0 let f = 1; export f;")
	want(t, x, "publish a@1.0.1 let h = 1;", api.Answer{Err: api.ErrLabel, Gap: api.GapMajor, Change: api.Change{Kind: api.ChangeGone, Name: "f"}, Text: "import P = a@1.0.1;\nlet w = P.f;\n"})
	want(t, x, "publish a@1.0.2 let f = 1; let g = 1; export g; export f;", api.Answer{Err: api.ErrLabel, Gap: api.GapMinor, Text: "import P = a@1.0.2;\nlet w = P.g;\n"})
	want(t, x, "publish a@1.1.0 let f = \"a\"; export f;", api.Answer{Err: api.ErrLabel, Gap: api.GapMajor, Change: api.Change{Kind: api.ChangeType, Name: "f"}, Text: "import P = a@1.1.0;\nlet w : int = P.f;\n"})
	want(t, x, "publish a@1.1.0 let f = 1; let g = 1; export g; export f;", api.Answer{})
	// The neighbour above.
	want(t, x, "publish a@1.0.5 let f = 1; export f;", api.Answer{})
	want(t, x, "publish a@1.0.9 let f = 1; let g = 1; export g; export f;", api.Answer{Err: api.ErrLabel, Gap: api.GapMinor, Text: "import P = a@1.0.9;\nlet w = P.g;\n"})
	want(t, x, "publish a@0.9.0 ", api.Answer{})
	want(t, x, "publish b@2.5.0 let f = 1; let g = 1; export g; export f;", api.Answer{})
	want(t, x, "publish b@2.5.0 ", api.Answer{Err: api.ErrThere})
	want(t, x, "publish b@2.4.0 let f = \"a\"; export f;", api.Answer{Err: api.ErrLabel, Gap: api.GapMajor, Change: api.Change{Kind: api.ChangeType, Name: "f"}, Text: "import P = b@2.4.0;\nlet w : text = P.f;\n"})
	want(t, x, "publish b@2.4.9 let f = 1; let k = 1; export f; export k;", api.Answer{Err: api.ErrLabel, Gap: api.GapMajor, Change: api.Change{Kind: api.ChangeGone, Name: "k"}, Text: "import P = b@2.4.9;\nlet w = P.k;\n"})
	want(t, x, "publish b@2.5.1 ", api.Answer{Err: api.ErrLabel, Gap: api.GapMajor, Change: api.Change{Kind: api.ChangeGone, Name: "f"}, Text: "import P = b@2.5.1;\nlet w = P.f;\n"})
	// The lower one allows it, the one above does not.
	want(t, x, "publish a@1.5.0 let f = 1; let g = 1; let z = 1; export g; export f; export z;", api.Answer{})
	want(t, x, "publish a@1.3.0 let f = 1; let g = 1; let k = 1; export g; export f; export k;", api.Answer{Err: api.ErrLabel, Gap: api.GapMajor, Change: api.Change{Kind: api.ChangeGone, Name: "k"}, Text: "import P = a@1.3.0;\nlet w = P.k;\n"})
	// Of two that don't allow it the lower one is told.
	want(t, x, "publish a@1.0.6 let g = 1; export g;", api.Answer{Err: api.ErrLabel, Gap: api.GapMajor, Change: api.Change{Kind: api.ChangeGone, Name: "f"}, Text: "import P = a@1.0.6;\nlet w = P.f;\n"})
}

// P24.2, P24.3: clients that tell types of other lines use the pins of the one release, then of the other.
func TestUses(t *testing.T) {
	const src = "let x = Q.A; export x; let y = fun z -> match z with Q.A -> 1 end; export y;"
	x, _ := some(t, "publish q@1.0.0 type t = A; export type t;", "publish q@1.0.1 type t = A; export type t;", "publish a@1.0.0 import Q = q@1.0.1; "+src)
	want(t, x, "publish a@1.0.1 import Q = q@1.0.0; let x = 1; export x; let y = fun z -> match z with Q.A -> 1 end; export y;", api.Answer{Err: api.ErrLabel, Gap: api.GapMajor, Change: api.Change{Kind: api.ChangeType, Name: "x"}, Text: "import P = a@1.0.1;\nimport Q0 = q@1.0.1;\nlet w : Q0.t = P.x;\n"})
	want(t, x, "publish a@2.0.0 import Q = q@1.0.0; let x = fun z -> Q.A; export x; let y = 1; export y;", api.Answer{})
	both := api.Answer{Gap: api.GapMajor, Change: api.Change{Kind: api.ChangeType, Name: "x"}}
	both.Text = "import P = a@1.0.0;\nimport Q0 = q@1.0.1;\nlet w : Q0.t = P.x;\n"
	want(t, x, "classify a@1.0.0 a@2.0.0", both)
	both.Text = "import P = a@2.0.0;\nimport Q0 = q@1.0.0;\nlet w : 'a -> Q0.t = P.x;\n"
	want(t, x, "classify a@2.0.0 a@1.0.0", both)
	// A client that no source can tell: its text is empty.
	want(t, x, "publish let@1.0.0 let x = 1; export x;", api.Answer{})
	want(t, x, "publish let@1.0.1 ", api.Answer{Err: api.ErrLabel, Gap: api.GapMajor, Change: api.Change{Kind: api.ChangeGone, Name: "x"}})
}

// P24.3: commands that look.
func TestLooks(t *testing.T) {
	x, _ := some(t, "publish a@1.0.0 "+f, "publish a@1.10.0 "+g, "publish a@1.9.0 "+g, "publish b@0.0.1 import A = a@1.0.0; let h = A.f; export h;", "yank b@0.0.1")
	const fBytes = "\x00\x01\x01f\x03\x02\x00\x03int\x00\x02\x00\x03int\x00"
	want(t, x, "query a@1.0.0", api.Answer{Text: fBytes})
	want(t, x, "query b@0.0.1", api.Answer{Text: strings.Replace(fBytes, "f", "h", 1), Pins: pins(t, "a@1.0.0"), Yanked: true})
	wantErr(t, x, api.ErrNone, "query a@1.0.1", "query c@1.0.0", "resolve a@1.0.1", "classify a@1.0.0 a@1.0.1", "classify a@1.0.1 a@1.0.0", "classify c@1.0.0 c@1.0.0")
	want(t, x, "versions a", api.Answer{Pins: pins(t, "a@1.0.0 a@1.9.0 a@1.10.0")})
	want(t, x, "versions b", api.Answer{Pins: pins(t, "b@0.0.1")})
	want(t, x, "versions c", api.Answer{})
	want(t, x, "classify a@1.0.0 a@1.0.0", api.Answer{Gap: api.GapPatch})
	want(t, x, "classify a@1.9.0 a@1.10.0", api.Answer{Gap: api.GapPatch})
	want(t, x, "classify a@1.0.0 a@1.9.0", api.Answer{Gap: api.GapMinor, Text: "import P = a@1.0.0;\nlet w : 'a -> 'a = P.f;\n"})
	want(t, x, "classify a@1.9.0 a@1.0.0", api.Answer{Gap: api.GapMajor, Change: api.Change{Kind: api.ChangeType, Name: "f"}, Text: "import P = a@1.9.0;\nlet w : 'a -> 'a = P.f;\n"})
	want(t, x, "classify b@0.0.1 a@1.0.0", api.Answer{Gap: api.GapMajor, Change: api.Change{Kind: api.ChangeGone, Name: "h"}, Text: "import P = b@0.0.1;\nlet w = P.h;\n"})
	want(t, x, "client import A = a@1.9.0; let x = A.g;", api.Answer{})
	want(t, x, "client let x = ;", api.Answer{Err: api.ErrForm, At: 8})
	wantErr(t, x, api.ErrName, "client import A = a@1.0.0; let x = A.g;")
	wantErr(t, x, api.ErrPin, "client import A = a@1.0.1;")
	want(t, x, "resolve b@0.0.1", api.Answer{Pins: pins(t, "a@1.10.0")})
	want(t, x, "resolve a@1.0.0", api.Answer{})
	for _, s := range []string{"a@1.10.0", "a@1.9.0"} {
		want(t, x, "yank "+s, api.Answer{})
	}
	want(t, x, "resolve b@0.0.1", api.Answer{Pins: pins(t, "a@1.0.0")})
	want(t, x, "yank a@1.0.0", api.Answer{})
	wantErr(t, x, api.ErrVersion, "resolve b@0.0.1")
	want(t, x, "fsck", api.Answer{Report: api.Report{Segments: 1, Records: 8}})
	want(t, x, "recover", api.Answer{})
}

// P24.3: Fsck tells what lies there, and its errors.
func TestFsck(t *testing.T) {
	x, fs := some(t, "publish a@1.0.0 "+f)
	fs.Write("strange", 0, []byte("x"))
	fs.Write("seg-000001", 0, nil)
	b, _ := fs.Read("seg-000001")
	fs.Write("seg-000001", len(b), []byte("loose"))
	want(t, x, "fsck", api.Answer{Report: api.Report{Segments: 1, Records: 1, Loose: 5, Strange: 1}})
	m, _ := fs.Read("manifest")
	fs.Write("manifest", 0, []byte("x"))
	wantErr(t, x, api.ErrBroken, "fsck")
	want(t, x, "recover", api.Answer{Err: api.ErrBroken})
	if x.Records() != 1 || len(x.All()) != 1 {
		t.Fatal("recover has turned something")
	}
	fs.Remove("manifest")
	wantErr(t, x, api.ErrNone, "fsck", "recover")
	fs.Write("manifest", 0, m)
	want(t, x, "recover", api.Answer{})
	fs.Power(0)
	fs.SyncDir()
	wantErr(t, x, api.ErrPower, "fsck", "recover")
}

// P24.2: commands that are not right; P24.4: bytes that are none, and an engine that is none.
func TestWrong(t *testing.T) {
	x, _ := some(t, "publish a@1.0.0 "+f)
	var none *engine.Engine
	a := pin(t, "a@1.0.1")
	for _, c := range []api.Command{{}, {Kind: 11}, {Kind: -1}, {Kind: api.CmdPublish}, {Kind: api.CmdPublish, Pin: a, Other: a}, {Kind: api.CmdPublish, Pin: a, Source: strings.Repeat("x", api.MaxSource+1)}, {Kind: api.CmdYank, Pin: a, Source: "x"}, {Kind: api.CmdVersions, Pin: a}, {Kind: api.CmdRecover, Pin: a}, {Kind: api.CmdClassify, Pin: a}, {Kind: api.CmdFsck, Source: "x"}, {Kind: api.CmdClient, Pin: a}, {Kind: api.CmdQuery, Pin: api.Pin{Pkg: "A"}}} {
		before := look(x)
		if got := x.Ask(c); raw(got) != raw(api.Answer{Err: api.ErrArg}) || look(x) != before {
			t.Fatal(raw(c), raw(got))
		}
		if got := none.Ask(c); raw(got) != raw(api.Answer{Err: api.ErrNil}) {
			t.Fatal(raw(c), raw(got))
		}
	}
	for _, s := range []string{"", "\x00", "x", "\x09\x00", "\x0B", "\x01\x01a"} {
		if got := x.Do(s); got != command.Told(api.Answer{Err: api.ErrBroken}) {
			t.Fatalf("%q: %q", s, got)
		}
		if got := none.Do(s); got != command.Told(api.Answer{Err: api.ErrNil}) {
			t.Fatalf("%q: %q", s, got)
		}
	}
	for _, s := range []string{"publish a@1.0.1 " + f, "recover", "fsck", "query a@1.0.0", "client "} {
		b, _ := command.Encode(cmd(t, s))
		if got := none.Do(b); got != command.Told(api.Answer{Err: api.ErrNil}) || raw(none.Ask(cmd(t, s))) != raw(api.Answer{Err: api.ErrNil}) {
			t.Fatalf("%q: %q", s, got)
		}
	}
	if len(none.All()) > 0 || none.Records() != 0 || none.Stopped() {
		t.Fatal("there is something")
	}
	// Do does what Ask does.
	b, _ := command.Encode(cmd(t, "publish a@1.0.1 "+f))
	if got := x.Do(b); got != command.Told(api.Answer{}) || x.Records() != 2 || len(x.All()) != 2 {
		t.Fatalf("%q", got)
	}
}

// What is handed out is the caller's own.
func TestOwn(t *testing.T) {
	x, _ := some(t, "publish q@1.0.0 type t('a) = A('a); export type t;", "publish a@1.0.0 import Q = q@1.0.0; let x = Q.A(1); export x;")
	before := look(x)
	for _, r := range x.All() {
		for i := range r.Iface.Vals {
			r.Iface.Vals[i].Type.Kids[0].Name = "?"
		}
		for i := range r.Pins {
			r.Pins[i].Pkg = "?"
		}
	}
	x.Ask(cmd(t, "query a@1.0.0")).Pins[0].Pkg = "?"
	x.Ask(cmd(t, "resolve a@1.0.0")).Pins[0].Pkg = "?"
	if look(x) != before {
		t.Fatal("what is handed out is shared")
	}
	want(t, x, "resolve a@1.0.0", api.Answer{Pins: pins(t, "q@1.0.0")})
}
