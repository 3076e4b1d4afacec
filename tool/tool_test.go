package tool_test

import (
	"math"
	"math/rand/v2"
	"strings"
	"testing"

	"touchstone/api"
	"touchstone/tool"
	"touchstone/world"
)

// P27.1: each kind of line.
func TestParse(t *testing.T) {
	a := pin("a", 1, 2, 3)
	want(t, "")
	want(t, "\n")
	want(t, "yank a@1.2.3\n", ask(api.CmdYank, a, ""))
	want(t, "unyank a@1.2.3", ask(api.CmdUnyank, a, ""))
	want(t, "query a@1.2.3", ask(api.CmdQuery, a, ""))
	want(t, "resolve list2@0.0.999999", ask(api.CmdResolve, pin("list2", 0, 0, 999999), ""))
	want(t, "versions a", ask(api.CmdVersions, api.Pin{Pkg: "a"}, ""))
	want(t, "classify a@1.2.3 b@0.0.1", classify(a, pin("b", 0, 0, 1)))
	want(t, "recover", ask(api.CmdRecover, api.Pin{}, ""))
	want(t, "fsck", ask(api.CmdFsck, api.Pin{}, ""))
	want(t, "fail 0\nfail 999999999\npower 10", numbered(api.ActFail, 0), numbered(api.ActFail, 999999999), numbered(api.ActPower, 10))
	want(t, "crash\ncrash 0\ncrash 3 1 1 999999999", crash(), crash(0), crash(3, 1, 1, 999999999))
	want(t, "publish a@1.2.3 << END\nlet f = 1;\nEND\n", ask(api.CmdPublish, a, "let f = 1;\n"))
	want(t, "client << x\n a\n\nb\nx\nfsck", ask(api.CmdClient, api.Pin{}, " a\n\nb\n"), ask(api.CmdFsck, api.Pin{}, ""))
}

// P27.1: blanks, lines that tell nothing, and a last line without its end.
func TestLines(t *testing.T) {
	r, y := ask(api.CmdRecover, api.Pin{}, ""), ask(api.CmdYank, pin("a", 1, 0, 0), "")
	want(t, "   recover  \n  yank    a@1.0.0 \n", r, y)
	want(t, "recover\nyank a@1.0.0", r, y)
	want(t, "\n   \n# yank\n#\n  # x y z\n#recover\nrecover", r)
	want(t, "recover\n\n\n", r)
	want(t, "# nothing")
	want(t, " ")
	wantForm(t, "\trecover", "recover\t", "recover\r", "yank\ta@1.0.0", "recover #", "yank a@1.0.0 # x", "RECOVER", "recover\x00")
	wantFault(t, "recover\n\n# x\nnothing\n", 4, api.ErrForm)
	wantFault(t, "nothing\nnothing\n", 1, api.ErrForm)
}

// P27.1: marks, and the sources behind them.
func TestSources(t *testing.T) {
	a := pin("a", 1, 0, 0)
	publish := func(s string) api.Act { return ask(api.CmdPublish, a, s) }
	want(t, "publish a@1.0.0 << END\nEND", publish(""))
	want(t, "publish a@1.0.0 << END\nEND\n", publish(""))
	want(t, "publish  a@1.0.0   <<  END  \n\nEND\n", publish("\n"))
	want(t, "publish a@1.0.0 << END\n END\nEND \nENDEND\nend\nEND\n", publish(" END\nEND \nENDEND\nend\n"))
	want(t, "publish a@1.0.0 << ;\nx;\n;\n", publish("x;\n"))
	want(t, "publish a@1.0.0 << <<\n# y\n<<\n", publish("# y\n"))
	want(t, "publish a@1.0.0 << #\nrecover\n#\nrecover\n", publish("recover\n"), ask(api.CmdRecover, api.Pin{}, ""))
	want(t, "client << A\nclient << B\nA\nclient << B\nA\nB\n", ask(api.CmdClient, api.Pin{}, "client << B\n"), ask(api.CmdClient, api.Pin{}, "A\n"))
	want(t, "client << \xFF\n\xFE\r\n\xFF", ask(api.CmdClient, api.Pin{}, "\xFE\r\n"))
	// One that does not come again.
	for _, s := range []string{"publish a@1.0.0 << END", "publish a@1.0.0 << END\n", "publish a@1.0.0 << END\nlet f = 1;\n", "client << END\nend\nEND \n END\n", "client << X\nrecover\nrecover"} {
		wantFault(t, s, 1, api.ErrForm)
		wantFault(t, "recover\n\n"+s, 3, api.ErrForm)
		wantFault(t, "client << A\n\n\nA\n"+s, 5, api.ErrForm)
	}
	// Numbers of lines count those of sources.
	wantFault(t, "client << A\n\n\nA\nnothing\n", 5, api.ErrForm)
}

// P27.1: a source of MaxSource bytes, and one more. ErrForm comes first, wherever it is.
func TestSourceLimit(t *testing.T) {
	full := strings.Repeat("x", 99) + "\n"
	full = strings.Repeat(full, api.MaxSource/100)
	want(t, "client << A\n"+full+"A\n", ask(api.CmdClient, api.Pin{}, full))
	want(t, "publish a@0.0.0 << A\n"+full+"A\n", ask(api.CmdPublish, pin("a", 0, 0, 0), full))
	for _, more := range []string{"\n", "y\n"} {
		wantFault(t, "client << A\n"+full+more+"A\n", 1, api.ErrLimit)
		wantFault(t, "recover\npublish a@0.0.0 << A\n"+full+more+"A\nclient << A\n"+full+more+"A\n", 2, api.ErrLimit)
		wantFault(t, "client << A\n"+full+more+"A\nnothing\n", 1+2+strings.Count(full+more, "\n"), api.ErrForm)
		wantFault(t, "client << A\n"+full+more, 1, api.ErrForm)
	}
	wantFault(t, "client << A\n"+full[1:]+"yy\nA\n", 1, api.ErrLimit)
}

// P27.1: a word too few and too many, pins, packages and numbers that are none.
func TestForm(t *testing.T) {
	wantForm(t, "nothing", "publish", "publish a@1.0.0", "publish a@1.0.0 <<", "publish << END\nEND", "publish a@1.0.0 END\nEND", "publish a@1.0.0 << END END\nEND", "publish a@1.0.0 <<END\nEND", "publish a << END\nEND", "publish a@1 << END\nEND", "publish a@1.0.0 < END\nEND", "publish a@1.0.0 b@1.0.0 << END\nEND",
		"yank", "yank a", "yank a@1.0", "yank a@1.0.0 a@1.0.0", "yank A@1.0.0", "yank a@01.0.0", "yank a@1.0.1000000", "unyank", "unyank x y", "query", "query a@", "query @1.0.0", "query a@1.0.0 x", "resolve", "resolve a", "resolve a@1.0.0 a@1.0.0",
		"versions", "versions A", "versions a b", "versions a@1.0.0", "versions "+strings.Repeat("a", 21), "versions 1a", "classify", "classify a@1.0.0", "classify a@1.0.0 b", "classify a@1.0.0 b@1.0.0 c@1.0.0", "classify a b@1.0.0",
		"client", "client <<", "client END\nEND", "client << A B\nA", "client a@1.0.0 << A\nA", "recover 1", "recover a@1.0.0", "fsck x", "fsck fsck",
		"fail", "fail x", "fail -1", "fail 01", "fail 00", "fail 1000000000", "fail 9999999999", "fail 0000000000", "fail 99999999999999999999", "fail 1 2", "fail +1", "fail 1.0", "fail 1_0", "fail 0x1", "fail ٣", "power", "power x", "power 1 2", "power 010", "power 1000000000",
		"crash x", "crash -1", "crash 0 x", "crash x 0", "crash 1 2 03", "crash 1000000000", "crash 0,1", "crashes", "fai 1", "publishes a@1.0.0 << A\nA", "<<", "END", "ask recover")
}

// P27.2: scripts of acts.
func TestTell(t *testing.T) {
	a := pin("a", 1, 2, 3)
	wantTold(t, "")
	wantTold(t, "yank a@1.2.3\nunyank a@1.2.3\nquery a@1.2.3\nresolve a@1.2.3\nversions a\nclassify a@1.2.3 b@0.0.0\nrecover\nfsck\n", ask(api.CmdYank, a, ""), ask(api.CmdUnyank, a, ""), ask(api.CmdQuery, a, ""), ask(api.CmdResolve, a, ""), ask(api.CmdVersions, api.Pin{Pkg: "a"}, ""), classify(a, pin("b", 0, 0, 0)), ask(api.CmdRecover, api.Pin{}, ""), ask(api.CmdFsck, api.Pin{}, ""))
	wantTold(t, "publish a@1.2.3 << END\nlet f = 1;\nEND\n", ask(api.CmdPublish, a, "let f = 1;\n"))
	wantTold(t, "publish a@1.2.3 << END\nEND\nclient << END\n\nEND\n", ask(api.CmdPublish, a, ""), ask(api.CmdClient, api.Pin{}, "\n"))
	wantTold(t, "client << END\n END\nEND \nEND\n", ask(api.CmdClient, api.Pin{}, " END\nEND \n"))
	wantTold(t, "fail 0\nfail 999999999\npower 7\ncrash\ncrash 0 12 999999999\n", numbered(api.ActFail, 0), numbered(api.ActFail, 999999999), numbered(api.ActPower, 7), crash(), crash(0, 12, 999999999))
}

// P27.2: acts that a script can't tell, in each field.
func TestNotTold(t *testing.T) {
	a := pin("a", 1, 2, 3)
	p := ask(api.CmdPublish, a, "x\n")
	for _, s := range []string{"x", "x\ny", "END\n", "x\nEND\ny\n", "\nEND\n", strings.Repeat("x\n", api.MaxSource/2) + "\n"} {
		p.Command.Source = s
		c := ask(api.CmdClient, api.Pin{}, s)
		wantNotTold(t, p, c)
	}
	wantNotTold(t, api.Act{}, api.Act{Kind: 5}, api.Act{Kind: -1}, api.Act{Kind: math.MaxInt}, api.Act{Kind: api.ActAsk}, ask(11, a, ""), ask(0, a, ""), ask(api.CmdYank, api.Pin{}, ""), ask(api.CmdYank, pin("A", 1, 0, 0), ""), ask(api.CmdYank, pin("a", -1, 0, 0), ""), ask(api.CmdYank, a, "x\n"), ask(api.CmdRecover, a, ""), ask(api.CmdFsck, api.Pin{}, "\n"), ask(api.CmdVersions, a, ""), ask(api.CmdClassify, a, ""), ask(api.CmdClient, a, ""), classify(a, pin("b", 0, 0, 1000000)))
	for _, n := range []int{-1, 1000000000, math.MinInt, math.MaxInt} {
		wantNotTold(t, numbered(api.ActFail, n), numbered(api.ActPower, n), crash(n), crash(0, n), crash(n, 0))
	}
	// What is not named is zero.
	for _, x := range []api.Act{ask(api.CmdYank, a, ""), ask(api.CmdFsck, api.Pin{}, ""), numbered(api.ActFail, 1), numbered(api.ActPower, 0), crash(), crash(1)} {
		for _, files := range [][]api.Survive{{{}}, {{Name: "a"}}} {
			y := x
			y.Files = files
			wantNotTold(t, y)
		}
		y := x
		if y.Turns = []int{0}; x.Kind != api.ActCrash {
			wantNotTold(t, y)
		}
		y = x
		if y.N = 1; x.Kind != api.ActFail && x.Kind != api.ActPower {
			wantNotTold(t, y)
		}
		if x.Kind != api.ActAsk {
			for _, c := range []api.Command{{Kind: api.CmdFsck}, {Pin: a}, {Pin: api.Pin{Pkg: "a"}}, {Other: a}, {Source: "\n"}} {
				y = x
				y.Command = c
				wantNotTold(t, y)
			}
		}
	}
}

// P27.3: each part of an answer alone, and all.
func TestShow(t *testing.T) {
	for _, x := range []struct {
		a      api.Answer
		wanted string
	}{
		{api.Answer{}, "ok\n"},
		{api.Answer{Err: api.ErrLabel}, "error 19\n"}, {api.Answer{Err: -3}, "error -3\n"},
		{api.Answer{At: 12}, "ok\nat 12\n"}, {api.Answer{At: -1}, "ok\nat -1\n"},
		{api.Answer{Gap: 2}, "ok\ngap 2\n"},
		{api.Answer{Change: api.Change{Kind: 3}}, "ok\nchange 3\n"}, {api.Answer{Change: api.Change{Kind: 1, Name: "f"}}, "ok\nchange 1 f\n"}, {api.Answer{Change: api.Change{Kind: 5, Name: "t", Con: "A"}}, "ok\nchange 5 t A\n"}, {api.Answer{Change: api.Change{Kind: 5, Con: "A"}}, "ok\nchange 5 A\n"}, {api.Answer{Change: api.Change{Name: "t"}}, "ok\nchange 0 t\n"},
		{api.Answer{Pins: []api.Pin{pin("a", 1, 2, 3), pin("b", 0, 0, 0), pin("", -1, 1000000, -7)}}, "ok\npin a@1.2.3\npin b@0.0.0\npin @-1.1000000.-7\n"},
		{api.Answer{Yanked: true}, "ok\nyanked\n"},
		{api.Answer{Report: api.Report{Loose: 4}}, "ok\nreport 0 0 4 0\n"}, {api.Answer{Report: api.Report{Segments: 1, Records: 22, Loose: -3, Strange: 4}}, "ok\nreport 1 22 -3 4\n"},
		{api.Answer{Text: "a"}, "ok\ntext 1\na\n"}, {api.Answer{Text: "a\n"}, "ok\ntext 2\na\n\n"}, {api.Answer{Text: "\n"}, "ok\ntext 1\n\n\n"}, {api.Answer{Text: "\x00\xFFé"}, "ok\ntext 4\n\x00\xFFé\n"},
		{api.Answer{Err: 19, At: 1, Gap: 3, Change: api.Change{Kind: 6, Name: "t", Con: "B"}, Pins: []api.Pin{pin("a", 1, 0, 0)}, Yanked: true, Report: api.Report{Strange: 1}, Text: "x\ny"}, "error 19\nat 1\ngap 3\nchange 6 t B\npin a@1.0.0\nyanked\nreport 0 0 0 1\ntext 3\nx\ny\n"},
	} {
		if got := tool.Show(x.a); got != x.wanted {
			t.Fatalf("%s: %q, not %q", raw(x.a), got, x.wanted)
		}
	}
}

// P27.4: what scripts show.
func TestRun(t *testing.T) {
	if s, at, e := tool.Run(40, "publish a@1.0.0 << END\nlet f = 1; export f;\nEND\nversions a\n"); s != "ok\nok\npin a@1.0.0\n" || at != 0 || e != api.OK {
		t.Fatal(s, at, e)
	}
	if s, at, e := tool.Run(40, ""); s != "" || at != 0 || e != api.OK {
		t.Fatal(s, at, e)
	}
	for _, capacity := range []int{0, -1, math.MinInt, api.MaxDisk + 1} {
		if s, at, e := tool.Run(capacity, "recover\n"); s != "" || at != 0 || e != api.ErrArg {
			t.Fatal(s, at, e)
		}
	}
	wantRun(t, "publish a@1.0.0 << E\nlet f = 1;\nexport f;\nE\npublish a@1.0.1 << E\nE\nyank a@1.0.0\nquery a@1.0.0\nfsck\npower 0\nunyank a@1.0.0\nrecover\ncrash\nresolve a@1.0.0\nclient << E\nlet x = ;\nE\nclassify a@1.0.0 a@1.0.0\nquery b@1.0.0\n",
		"ok", "error 19", "gap 3", "change 1 f", "text 33", "import P = a@1.0.1;", "let w = P.f;", "", "ok", "ok", "yanked", "text 11", "\x00\x01\x01f\x02\x00\x03int\x00", "ok", "report 1 2 0 0", "ok", "error 7", "error 7", "ok", "ok", "error 10", "at 8", "ok", "gap 1", "error 3")
}

// P27.4: the same as a world's answers, one behind the other.
func TestRunAny(t *testing.T) {
	d := rand.New(rand.NewPCG(27, 4))
	for range 100 {
		var acts []api.Act
		for range d.IntN(12) {
			a := someAct(d)
			if len(a.Command.Source) > 1000 {
				a.Command.Source = ""
			}
			acts = append(acts, a)
		}
		s, e := tool.Tell(acts...)
		if e != api.OK {
			t.Fatal(e)
		}
		w, _ := world.New(60)
		wanted := ""
		for _, a := range acts {
			wanted += tool.Show(w.Step(a))
		}
		if got, at, e := tool.Run(60, s); got != wanted || at != 0 || e != api.OK {
			t.Fatalf("%s: %s, %v, not %s", s, got, e, wanted)
		}
	}
}

// P27.5: Parse of Tell is the acts; P27.6: two scripts are the acts of both.
func TestBack(t *testing.T) {
	d := rand.New(rand.NewPCG(27, 5))
	for range 2000 {
		var acts []api.Act
		for range d.IntN(6) {
			acts = append(acts, someAct(d))
		}
		s, e := tool.Tell(acts...)
		if e != api.OK {
			t.Fatalf("%.300s: %v", raw(acts), e)
		}
		want(t, s, acts...)
		n := d.IntN(len(acts) + 1)
		a, _ := tool.Tell(acts[:n]...)
		b, _ := tool.Tell(acts[n:]...)
		want(t, a+b, acts...)
		want(t, a+"# between\n"+strings.TrimSuffix(b, "\n"), acts...)
	}
}
