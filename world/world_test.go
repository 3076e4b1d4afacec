package world_test

import (
	"math"
	"testing"

	"touchstone/api"
	"touchstone/world"
)

// P25.1: worlds, and the errors of such as have no room.
func TestNew(t *testing.T) {
	for _, capacity := range []int{math.MinInt, -1, 0, api.MaxDisk + 1, math.MaxInt} {
		if w, e := world.New(capacity); w != nil || e != api.ErrArg {
			t.Fatal(capacity, e)
		}
	}
	for _, capacity := range []int{1, 2, 40, api.MaxDisk} {
		fresh(t, capacity)
	}
}

// P25.2, P25.3: commands, and what is noted of their answers.
func TestAsk(t *testing.T) {
	w := fresh(t, 100)
	one := "publish a@1.0.0 " + f
	step(t, w, ask(t, one), api.OK)
	wantBook(t, w, cmds(t, one), nil)
	for s, e := range map[string]api.Errno{one: api.ErrThere, "yank a@1.0.1": api.ErrNone, "unyank a@1.0.0": api.ErrThere, "query a@1.0.1": api.ErrNone, "publish b@1.0.0 let x = y;": api.ErrName, "recover": api.OK, "resolve a@1.0.0": api.OK} {
		step(t, w, ask(t, s), e)
		wantBook(t, w, cmds(t, one), nil)
	}
	step(t, w, api.Act{Kind: api.ActAsk}, api.ErrArg)
	step(t, w, api.Act{Kind: api.ActAsk, Command: api.Command{Kind: api.CmdPublish}}, api.ErrArg)
	step(t, w, ask(t, "yank a@1.0.0"), api.OK)
	step(t, w, ask(t, "unyank a@1.0.0"), api.OK)
	wantBook(t, w, cmds(t, one, "yank a@1.0.0", "unyank a@1.0.0"), nil)
	label := w.Step(ask(t, "publish a@1.0.1 "+g))
	if label.Err != api.ErrLabel || label.Gap != api.GapMinor || label.Text == "" {
		t.Fatal(raw(label))
	}
	if got := w.Step(ask(t, "fsck")); raw(got) != raw(api.Answer{Report: api.Report{Segments: 1, Records: 3}}) {
		t.Fatal(raw(got))
	}
	wantBook(t, w, cmds(t, one, "yank a@1.0.0", "unyank a@1.0.0"), nil)
}

// P25.2: acts of kinds that are none.
func TestOtherActs(t *testing.T) {
	w := fresh(t, 100)
	for _, kind := range []int{0, 5, -1, math.MaxInt, math.MinInt} {
		step(t, w, api.Act{Kind: kind}, api.ErrArg)
		step(t, w, api.Act{Kind: kind, Command: cmd(t, "publish a@1.0.0 "+f), N: 0, Turns: []int{1}}, api.ErrArg)
	}
	wantBook(t, w, nil, nil)
}

// P25.2: the chapter's example: the power goes at once.
func TestPower(t *testing.T) {
	w := fresh(t, 40)
	one := "publish a@1.0.0 " + f
	step(t, w, power(0), api.OK)
	step(t, w, ask(t, one), api.ErrPower)
	wantBook(t, w, nil, cmds(t, one))
	step(t, w, ask(t, one), api.ErrStop)
	step(t, w, ask(t, "recover"), api.ErrPower)
	step(t, w, ask(t, "yank a@1.0.0"), api.ErrStop)
	wantBook(t, w, nil, cmds(t, one))
	step(t, w, crash(), api.OK)
	wantBook(t, w, nil, nil)
	step(t, w, ask(t, one), api.OK)
	wantBook(t, w, cmds(t, one), nil)
	step(t, w, crash(), api.OK)
	wantBook(t, w, cmds(t, one), nil)
}

// P25.2, P25.4: the power gone, or a failure, at each step of each command that mutates; then recovered, with a failure or without, or crashed, with nothing left, and all.
func TestEachStep(t *testing.T) {
	l := []string{"publish a@1.0.0 " + f, "yank a@1.0.0", "publish a@1.1.0 " + g, "unyank a@1.0.0"}
	more, none := 0, 0
	for n := range l {
		for _, kind := range []string{"fail", "power"} {
			for _, next := range []string{"recover", "recover twice", "crash", "crash all"} {
				for at := 0; ; at++ {
					w := fresh(t, 100)
					for _, s := range l[:n] {
						step(t, w, ask(t, s), api.OK)
					}
					e := api.ErrIO
					if kind == "power" {
						e = api.ErrPower
						step(t, w, power(at), api.OK)
					} else {
						step(t, w, fail(at), api.OK)
					}
					a := w.Step(ask(t, l[n]))
					if a.Err == api.OK {
						wantBook(t, w, cmds(t, l[:n+1]...), nil)
						break
					}
					if a.Err != e {
						t.Fatal(raw(a))
					}
					wantBook(t, w, cmds(t, l[:n]...), cmds(t, l[n]))
					if lookBack(t, w, kind, next) {
						if len(w.Acked()) > n {
							more++
							wantBook(t, w, cmds(t, l[:n+1]...), nil)
						} else {
							none++
							wantBook(t, w, cmds(t, l[:n]...), nil)
						}
					} else {
						wantBook(t, w, cmds(t, l[:n]...), cmds(t, l[n]))
					}
				}
			}
		}
	}
	if more < 5 || none < 20 {
		t.Fatal(more, none)
	}
}

// lookBack recovers, or crashes, and tells whether the engine looks back then.
func lookBack(t *testing.T, w *world.World, kind, next string) bool {
	t.Helper()
	switch next {
	case "crash":
		step(t, w, crash(), api.OK)
	case "crash all":
		step(t, w, crashAll(), api.OK)
	case "recover twice":
		if kind == "fail" {
			step(t, w, fail(0), api.OK)
			step(t, w, ask(t, "recover"), api.ErrIO)
			step(t, w, ask(t, "yank a@1.0.0"), api.ErrStop)
			if len(w.Pending()) != 1 {
				t.Fatal("nothing is under way any more")
			}
		}
		fallthrough
	default:
		if kind == "power" {
			step(t, w, ask(t, "recover"), api.ErrPower)
			return false
		}
		step(t, w, ask(t, "recover"), api.OK)
	}
	return true
}

// P25.2: Fail and Power, by their N; each call takes the place of the one before.
func TestFail(t *testing.T) {
	w := fresh(t, 100)
	step(t, w, fail(0), api.OK)
	step(t, w, fail(-1), api.OK)
	step(t, w, power(math.MinInt), api.OK)
	step(t, w, ask(t, "publish a@1.0.0 "+f), api.OK)
	step(t, w, fail(1000), api.OK)
	step(t, w, ask(t, "yank a@1.0.0"), api.OK)
	step(t, w, fail(0), api.OK)
	step(t, w, ask(t, "recover"), api.ErrIO)
	wantBook(t, w, cmds(t, "publish a@1.0.0 "+f, "yank a@1.0.0"), nil)
	step(t, w, ask(t, "recover"), api.OK)
	step(t, w, fail(0), api.OK)
	step(t, w, crash(), api.OK) // what is left has neither
	step(t, w, ask(t, "unyank a@1.0.0"), api.OK)
	wantBook(t, w, cmds(t, "publish a@1.0.0 "+f, "yank a@1.0.0", "unyank a@1.0.0"), nil)
}

// P25.2: a crash that leaves files that are none, and turns that are none.
func TestOddCrash(t *testing.T) {
	w := fresh(t, 100)
	step(t, w, ask(t, "publish a@1.0.0 "+f), api.OK)
	odd := api.Act{Kind: api.ActCrash, Turns: []int{-1, 99, math.MaxInt, 0, 0}, Files: []api.Survive{{}, {Name: "none", Sectors: []int{0}, Long: true}, {Name: "seg-000001", Sectors: []int{-1, math.MaxInt, math.MinInt}, Long: true}, {Name: "///"}}, N: 7, Command: cmd(t, "yank a@1.0.0")}
	step(t, w, odd, api.OK)
	wantBook(t, w, cmds(t, "publish a@1.0.0 "+f), nil)
}

// P25.2: a world whose store has too little room.
func TestNoRoom(t *testing.T) {
	w := fresh(t, 3)
	var l []string
	for i := range 100 {
		s := "publish a@" + string(rune('1'+i/10)) + "." + string(rune('0'+i%10)) + ".0 " + g
		a := w.Step(ask(t, s))
		if a.Err == api.ErrSpace {
			break
		}
		if l = append(l, s); a.Err != api.OK {
			t.Fatal(raw(a))
		}
	}
	if len(l) < 2 || len(l) > 50 {
		t.Fatal(len(l))
	}
	wantBook(t, w, cmds(t, l...), nil)
	step(t, w, crash(), api.OK)
	wantBook(t, w, cmds(t, l...), nil)
}

// P25.1, P25.2, P25.3: a world that is none.
func TestNil(t *testing.T) {
	var w *world.World
	for _, a := range []api.Act{{}, crash(), fail(0), power(0), ask(t, "recover"), ask(t, "publish a@1.0.0 "+f), {Kind: 77}} {
		step(t, w, a, api.ErrNil)
	}
	if len(w.Acked()) > 0 || len(w.Pending()) > 0 || len(w.Releases()) > 0 || w.True() {
		t.Fatal("there is something")
	}
}

// P25.3: what was handed out is turned: the world stays.
func TestOwn(t *testing.T) {
	w := fresh(t, 100)
	l := []string{"publish a@1.0.0 type t('a) = A('a); export type t; " + f, "yank a@1.0.0"}
	for _, s := range l {
		step(t, w, ask(t, s), api.OK)
	}
	step(t, w, fail(0), api.OK)
	step(t, w, ask(t, "unyank a@1.0.0"), api.ErrIO)
	w.Acked()[0].Source, w.Acked()[1].Pin.Pkg, w.Pending()[0].Kind = "?", "?", 77
	r := w.Releases()
	r[0].Source, r[0].Iface.Vals[0].Name, r[0].Iface.Types[0].Params[0], r[0].Iface.Vals[0].Type.Kids[0].Name = "?", "?", "?", "?"
	wantBook(t, w, cmds(t, l...), cmds(t, "unyank a@1.0.0"))
}
