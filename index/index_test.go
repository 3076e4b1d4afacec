package index_test

import (
	"fmt"
	"slices"
	"strings"
	"testing"

	"touchstone/api"
	"touchstone/index"
)

// P21.1, P21.2: what is released.
func TestPublish(t *testing.T) {
	x := some(t, "a@1.0.0 "+one)
	r, there := x.Get(pin(t, "a@1.0.0"))
	f := api.Val{Name: "f", Type: api.Term{Kind: api.TyFun, Kids: []api.Term{{Kind: api.TyCon, Name: "int"}, {Kind: api.TyCon, Name: "int"}}}}
	wanted := api.Release{Pin: pin(t, "a@1.0.0"), Iface: api.Iface{Vals: []api.Val{f}}, Source: one}
	if !there || raw(r) != raw(wanted) {
		t.Fatal(raw(r), there)
	}
	publish(t, x, "b@0.1.0 import A = a@1.0.0; let y = A.f; export y;")
	r, there = x.Get(pin(t, "b@0.1.0"))
	if f.Name = "y"; !there || raw(r.Iface.Vals) != raw([]api.Val{f}) || raw(r.Pins) != raw(pins(t, "a@1.0.0")) {
		t.Fatal(raw(r), there)
	}
	publish(t, x, "c@2.0.0 import B = b@0.1.0; import A = a@1.0.0; type t = T; export type t;")
	if r, _ = x.Get(pin(t, "c@2.0.0")); raw(r.Pins) != raw(pins(t, "b@0.1.0 a@1.0.0")) || len(r.Iface.Types) != 1 {
		t.Fatal(raw(r))
	}
}

// P21.1: each error of Try.
func TestErrors(t *testing.T) {
	x := some(t, "a@1.0.0 "+one)
	for _, p := range []api.Pin{{}, {Pkg: "a"}, {Pkg: "A", Version: api.Version{Major: 1}}, {Pkg: "a", Version: api.Version{Major: -1}}, {Pkg: "a", Version: api.Version{Minor: api.MaxNumber + 1}}, {Pkg: "a", Version: api.Version{Patch: -1}}, {Pkg: strings.Repeat("a", 21)}, {Pkg: "1"}, {Pkg: "a.b"}} {
		if p == (api.Pin{Pkg: "a"}) {
			continue // 0.0.0 is right
		}
		for _, s := range []string{one, "let", two} {
			want(t, x, p, s, 0, api.ErrArg)
		}
	}
	for _, s := range []string{one, "let", two, "import A = a@1.0.0; export nothing;"} {
		want(t, x, pin(t, "a@1.0.0"), s, 0, api.ErrThere)
	}
	b := pin(t, "b@1.0.0")
	want(t, x, b, "let x = ;", 8, api.ErrForm)
	want(t, x, b, "import A = a@1.0.1;", 0, api.ErrPin)
	want(t, x, b, "import A = b@1.0.0;", 0, api.ErrPin)
	want(t, x, b, "let x = y;", 0, api.ErrName)
	want(t, x, b, "let x = 1 1;", 0, api.ErrType)
	want(t, x, b, "let x = match 1 with 1 -> 2 end;", 0, api.ErrMatch)
	want(t, x, b, "type t = A; let x = A; export x;", 0, api.ErrEscape)
	want(t, x, b, strings.Repeat(" ", api.MaxSource+1), 0, api.ErrLimit)
	want(t, x, pin(t, "a@1.0.1"), two, 0, api.ErrLabel)
	want(t, x, pin(t, "a@1.0.1"), "let x = ;", 8, api.ErrForm)
	want(t, x, pin(t, "a@1.0.1"), "import A = a@1.0.0; let f = A.f; export f;", 0, api.ErrCycle)
	want(t, x, pin(t, "a@1.0.1"), "import A = a@1.0.0;", 0, api.ErrCycle)
	want(t, x, pin(t, "a@1.9.0"), "import A = a@1.0.0; let x = 1 1;", 0, api.ErrType)
	want(t, x, pin(t, "a@2.0.0"), "import A = a@1.0.0;", 0, api.OK)
}

// P21.1: with ErrLabel comes the release that it would be.
func TestWouldBe(t *testing.T) {
	x := some(t, "a@1.0.0 "+two, "b@1.0.0 "+one)
	source := "import B = b@1.0.0; let f = B.f; export f;"
	r, at, e := x.Try(pin(t, "a@1.5.0"), source)
	if e != api.ErrLabel || at != 0 || r.Pin != pin(t, "a@1.5.0") || r.Source != source || raw(r.Pins) != raw(pins(t, "b@1.0.0")) || len(r.Iface.Vals) != 1 || r.Yanked {
		t.Fatal(raw(r), at, e)
	}
}

// P21.1: what neighbours allow: below, above, both, none.
func TestLabels(t *testing.T) {
	wantLabels(t, "a@1.0.0 let f = 1; export f;", "!a@1.0.1 let g = 1; export g;", "a@1.1.0 let f = 1; let g = 2; export f; export g;", "!a@1.0.5 let f = 1; let g = 2; export f; export g;", "a@2.0.0 ")
	// below alone
	wantLabels(t, "a@1.0.0 "+raised, "a@1.0.1 "+alike, "!a@1.0.2 "+two, "!a@1.0.2 "+one, "!a@1.1.0 "+one, "!a@1.1.0 "+other, "a@1.1.0 "+two, "a@1.2.0 "+two, "!a@1.3.0 "+raised, "!a@1.3.0 "+nothing, "a@2.0.0 "+other, "a@3.0.0 "+nothing)
	// above alone
	wantLabels(t, "a@1.5.5 "+raised, "a@1.5.4 "+alike, "!a@1.5.3 "+one, "!a@1.5.3 "+two, "a@1.4.9 "+one, "!a@1.4.8 "+two, "!a@1.4.8 "+raised, "a@1.3.0 "+nothing, "a@0.9.9 "+typed)
	// both
	wantLabels(t, "a@1.0.0 "+one, "a@1.2.0 "+two, "!a@1.1.0 "+typed, "!a@1.1.0 "+nothing, "!a@1.1.0 "+other, "a@1.1.0 "+raised, "!a@1.1.1 "+two, "!a@1.1.1 "+one, "a@1.1.1 "+alike, "!a@1.0.9 "+raised, "a@1.0.9 "+one, "!a@1.2.1 "+typed, "a@1.3.0 "+typed)
	// A major number by itself tells all; none is a neighbour of another one.
	wantLabels(t, "a@2.0.0 "+two, "a@1.0.0 "+other, "a@3.0.0 "+one, "a@0.0.0 "+nothing, "b@2.0.1 "+other, "!a@2.0.1 "+other)
	// Nothing below, or above, by any gap.
	wantLabels(t, "a@1.0.0 "+nothing, "a@1.0.1 "+nothing, "!a@1.0.2 "+one, "a@1.1.0 "+one, "a@1.2.0 "+one, "a@1.1.7 "+one, "!a@1.1.6 "+nothing)
}

// P21.1: versions that were yanked are neighbours too.
func TestYankedNeighbours(t *testing.T) {
	x := some(t, "a@1.0.0 "+one, "a@1.1.0 "+two)
	for _, s := range []string{"a@1.0.0", "a@1.1.0"} {
		if e := x.Yank(pin(t, s), true); e != api.OK {
			t.Fatal(e)
		}
	}
	want(t, x, pin(t, "a@1.0.1"), two, 0, api.ErrLabel)
	want(t, x, pin(t, "a@1.2.0"), one, 0, api.ErrLabel)
	want(t, x, pin(t, "a@1.0.0"), one, 0, api.ErrThere)
	want(t, x, pin(t, "b@1.0.0"), "import A = a@1.1.0; let g = A.g;", 0, api.OK)
}

// P21.1, P21.3, P21.7: lines that reach one another over several releases.
func TestCycle(t *testing.T) {
	x := some(t, "a@1.0.0 ", "b@1.0.0 import A = a@1.0.0;", "c@1.0.0 import B = b@1.0.0;", "a@2.0.0 ", "d@1.0.0 import A = a@2.0.0;")
	want(t, x, pin(t, "a@1.1.0"), "import B = b@1.0.0;", 0, api.ErrCycle)
	want(t, x, pin(t, "a@1.1.0"), "import C = c@1.0.0;", 0, api.ErrCycle)
	want(t, x, pin(t, "b@1.1.0"), "import C = c@1.0.0; import D = d@1.0.0;", 0, api.ErrCycle)
	want(t, x, pin(t, "b@1.1.0"), "import D = d@1.0.0;", 0, api.OK)
	want(t, x, pin(t, "a@2.0.1"), "import B = b@1.0.0;", 0, api.OK)
	want(t, x, pin(t, "a@2.0.2"), "import B = b@1.1.0;", 0, api.ErrCycle)
	// ErrCycle comes ahead of ErrLabel, and behind all errors of a check.
	want(t, x, pin(t, "a@2.0.3"), "import D = d@1.0.0; let f = 1; export f;", 0, api.ErrCycle)
	want(t, x, pin(t, "a@2.0.3"), "import D = d@1.0.0; let f = 1; export f : text;", 0, api.ErrType)
	wantReach := func(from, wanted string) {
		t.Helper()
		var l []api.Line
		for _, p := range pins(t, wanted) {
			l = append(l, api.Line{Pkg: p.Pkg, Major: p.Major})
		}
		if got := x.Reach(pins(t, from)); !slices.Equal(got, l) {
			t.Fatalf("%s: %v, not %v", from, got, l)
		}
	}
	wantReach("", "")
	wantReach("a@1.0.0", "a@1.0.0")
	wantReach("c@1.0.0", "a@1.0.0 b@1.0.0 c@1.0.0")
	wantReach("c@1.5.0", "c@1.0.0")
	wantReach("b@1.1.0 c@1.0.0", "a@1.0.0 a@2.0.0 b@1.0.0 c@1.0.0 d@1.0.0")
	wantReach("z@3.0.0 z@20.0.0 y@7.0.0 z@3.1.0", "y@7.0.0 z@3.0.0 z@20.0.0")
}

// P21.1: MaxReleases releases, and one more.
func TestMaxReleases(t *testing.T) {
	x := index.New()
	for i := range api.MaxReleases {
		if at, e := x.Publish(api.Pin{Pkg: fmt.Sprintf("p%d", i%7), Version: api.Version{Major: 1, Minor: i / 7}}, one); e != api.OK || at != 0 {
			t.Fatal(i, at, e)
		}
	}
	if len(x.All()) != api.MaxReleases {
		t.Fatal(len(x.All()))
	}
	for _, s := range []string{one, "let", "import A = none@1.0.0;"} {
		if _, at, e := x.Try(pin(t, "a@1.0.0"), s); e != api.ErrLimit || at != 0 {
			t.Fatal(s, at, e)
		}
		if at, e := x.Publish(pin(t, "a@1.0.0"), s); e != api.ErrLimit || at != 0 {
			t.Fatal(s, at, e)
		}
	}
	if _, e := x.Publish(pin(t, "p0@1.0.0"), one); e != api.ErrThere {
		t.Fatal(e)
	}
	if _, e := x.Publish(api.Pin{}, one); e != api.ErrArg {
		t.Fatal(e)
	}
	if at, e := x.Client("import A = p0@1.0.0; let x = A.f;"); at != 0 || e != api.OK || len(x.All()) != api.MaxReleases {
		t.Fatal(at, e)
	}
}

// P21.2: yanked, and taken back.
func TestYank(t *testing.T) {
	x := some(t, "a@1.0.0 "+one, "a@1.0.1 "+one)
	a := pin(t, "a@1.0.0")
	for _, step := range []struct {
		p      string
		on     bool
		wanted api.Errno
	}{{"a@1.0.0", false, api.ErrThere}, {"a@1.0.0", true, api.OK}, {"a@1.0.0", true, api.ErrThere}, {"a@1.0.2", true, api.ErrNone}, {"a@1.0.2", false, api.ErrNone}, {"b@1.0.0", true, api.ErrNone}, {"a@1.0.0", false, api.OK}, {"a@1.0.0", false, api.ErrThere}, {"a@1.0.0", true, api.OK}} {
		before := look(x)
		if e := x.Yank(pin(t, step.p), step.on); e != step.wanted {
			t.Fatal(step, e)
		}
		if step.wanted != api.OK && look(x) != before {
			t.Fatal(step, "something is changed")
		}
		if r, _ := x.Get(a); step.wanted == api.OK && r.Yanked != step.on {
			t.Fatal(step, r.Yanked)
		}
	}
	if e := x.Yank(api.Pin{}, true); e != api.ErrNone {
		t.Fatal(e)
	}
	r, _ := x.Get(pin(t, "a@1.0.1"))
	if all := x.All(); r.Yanked || !all[0].Yanked || all[1].Yanked {
		t.Fatal(raw(all))
	}
}

// P21.2: clients are checked, and change nothing.
func TestClient(t *testing.T) {
	x := some(t, "a@1.0.0 "+one)
	before := look(x)
	for _, c := range []struct {
		source string
		at     int
		e      api.Errno
	}{{"", 0, api.OK}, {"import A = a@1.0.0; let x = A.f 1;", 0, api.OK}, {"import A = a@1.0.0; let x = A.g;", 0, api.ErrName}, {"import A = a@1.0.1;", 0, api.ErrPin}, {"let x = ;", 8, api.ErrForm}, {"import A = a@1.0.0; let x = A.f A.f;", 0, api.ErrType}} {
		if at, e := x.Client(c.source); at != c.at || e != c.e || look(x) != before {
			t.Fatal(c, at, e)
		}
	}
}

// P21.3: looks, in order.
func TestLooks(t *testing.T) {
	x := index.New()
	if _, there := x.Get(pin(t, "a@1.0.0")); there || len(x.All()) > 0 || len(x.Versions("a")) > 0 || len(x.Reach(nil)) > 0 {
		t.Fatal("something is there")
	}
	order := "a@0.0.9 a@0.0.10 a@1.0.0 a@1.2.0 a@1.10.0 a@2.0.0 a@10.0.0 aa@1.0.0 b@0.0.1 b2@3.0.0"
	l := strings.Fields(order)
	for i := range l {
		publish(t, x, l[(i*7+3)%len(l)]+" ")
	}
	var got []string
	for _, r := range x.All() {
		got = append(got, fmt.Sprintf("%s@%d.%d.%d", r.Pkg, r.Major, r.Minor, r.Patch))
	}
	if strings.Join(got, " ") != order {
		t.Fatal(got)
	}
	if v := fmt.Sprint(x.Versions("a")); v != "[{0 0 9} {0 0 10} {1 0 0} {1 2 0} {1 10 0} {2 0 0} {10 0 0}]" {
		t.Fatal(v)
	}
	if v := fmt.Sprint(x.Versions("b")); v != "[{0 0 1}]" || len(x.Versions("c")) > 0 || len(x.Versions("")) > 0 {
		t.Fatal(v)
	}
}

// P21.1, P21.2, P21.3: of none.
func TestNil(t *testing.T) {
	var x *index.Index
	r, at, e := x.Try(api.Pin{}, "let")
	if raw(r) != raw(api.Release{}) || at != 0 || e != api.ErrNil {
		t.Fatal(raw(r), at, e)
	}
	if at, e := x.Publish(pin(t, "a@1.0.0"), ""); at != 0 || e != api.ErrNil {
		t.Fatal(at, e)
	}
	if at, e := x.Client("let"); at != 0 || e != api.ErrNil || x.Yank(api.Pin{}, true) != api.ErrNil || x.Yank(api.Pin{}, false) != api.ErrNil {
		t.Fatal(at, e)
	}
	if r, there := x.Get(api.Pin{}); there || raw(r) != raw(api.Release{}) || len(x.All()) > 0 || len(x.Versions("a")) > 0 || len(x.Reach(pins(t, "a@1.0.0"))) > 0 {
		t.Fatal("something is there")
	}
}

// P21.3: what was handed out is turned: the index stays.
func TestOwn(t *testing.T) {
	x := some(t, "a@1.0.0 type t('a) = A('a, int); let f = fun x -> (A(x, 1), (1, 2)); export f; export type t;", "b@1.0.0 import A = a@1.0.0; let x = A.f; export x;")
	before := look(x)
	spoil := func(r api.Release) {
		r.Iface.Vals[0].Name, r.Iface.Vals[0].Type.Kids[1].Name = "?", "?"
		r.Iface.Vals[0].Type.Kids[1].Kids[0].Name = "?"
		for _, d := range r.Iface.Types {
			d.Params[0], d.Cons[0].Name, d.Cons[0].Args[0].Name = "?", "?", "?"
		}
		for i := range r.Pins {
			r.Pins[i].Pkg = "?"
		}
	}
	for _, r := range x.All() {
		spoil(r)
	}
	for _, s := range []string{"a@1.0.0", "b@1.0.0"} {
		r, _ := x.Get(pin(t, s))
		spoil(r)
	}
	if v := x.Versions("a"); len(v) == 1 {
		v[0].Major = 99
	}
	r, _, _ := x.Try(pin(t, "b@1.0.1"), "import A = a@1.0.0; let x = A.f; export x;")
	spoil(r)
	if look(x) != before {
		t.Fatal("what is handed out is shared")
	}
}

// P21.3: lines that are reached in very many ways.
func TestDiamonds(t *testing.T) {
	x := some(t, "p0@1.0.0 ")
	const n = 60
	for i := 1; i <= n; i++ {
		for _, s := range []string{fmt.Sprintf("a%d@1.0.0 import P = p%d@1.0.0;", i, i-1), fmt.Sprintf("b%d@1.0.0 import P = p%d@1.0.0;", i, i-1), fmt.Sprintf("p%d@1.0.0 import A = a%d@1.0.0; import B = b%d@1.0.0;", i, i, i)} {
			p, source, _ := strings.Cut(s, " ")
			if at, e := x.Publish(pin(t, p), source); at != 0 || e != api.OK {
				t.Fatal(s, at, e)
			}
		}
	}
	if l := x.Reach(pins(t, fmt.Sprintf("p%d@1.0.0", n))); len(l) != 3*n+1 {
		t.Fatal(len(l))
	}
	want(t, x, pin(t, "p0@1.0.1"), fmt.Sprintf("import P = p%d@1.0.0;", n), 0, api.ErrCycle)
}
