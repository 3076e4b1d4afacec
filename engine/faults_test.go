package engine_test

import (
	"fmt"
	"math/rand/v2"
	"testing"

	"touchstone/api"
	"touchstone/engine"
	"touchstone/vfs"
)

// changes are commands, of which each is answered without an error behind those ahead.
func changes() []string {
	return []string{"publish a@1.0.0 " + f, "yank a@1.0.0", "publish a@1.1.0 " + g, "unyank a@1.0.0", "publish b@1.0.0 import A = a@1.1.0; let h = A.g; export h;"}
}

// without is a store on which all but the last of the first n commands were answered; and the engine.
func without(t *testing.T, n int) (*engine.Engine, *vfs.FS, []api.Command) {
	t.Helper()
	var l []api.Command
	for _, s := range changes()[:n] {
		l = append(l, cmd(t, s))
	}
	x, fs := some(t, changes()[:n-1]...)
	return x, fs, l
}

// P24.2, P24.5, P24.6: the power gone, or a failure, at each step of each change; then recovered, or opened anew behind a crash.
func TestEachStep(t *testing.T) {
	for n := 1; n <= len(changes()); n++ {
		for _, power := range []bool{false, true} {
			steps := 0
			for ; ; steps++ {
				x, fs, l := without(t, n)
				before := look(x)
				wanted := api.ErrIO
				if fs.Fail(steps); power {
					fs.Fail(-1)
					fs.Power(steps)
					wanted = api.ErrPower
				}
				a := x.Ask(l[n-1])
				if a.Err == api.OK {
					break
				}
				if raw(a) != raw(api.Answer{Err: wanted}) || !x.Stopped() || raw(x.All()) != told(t, l[:n-1]...) || x.Records() != n-1 {
					t.Fatalf("%d, step %d: %s, from %s to %s", n, steps, raw(a), before, look(x))
				}
				wantStopped(t, x)
				turns, files := all(fs)
				for _, left := range []*vfs.FS{fs.Crash(nil), fs.Crash(turns, files...), fs.Crash(turns), fs.Crash(nil, files...)} {
					wantOneOf(t, open(t, left), l, n-1)
				}
				got := x.Ask(cmd(t, "recover"))
				if power {
					if raw(got) != raw(api.Answer{Err: api.ErrPower}) || !x.Stopped() || raw(x.All()) != told(t, l[:n-1]...) {
						t.Fatalf("recover: %s", raw(got))
					}
					continue
				}
				if raw(got) != raw(api.Answer{}) || x.Stopped() {
					t.Fatalf("recover: %s", raw(got))
				}
				wantOneOf(t, x, l, n-1)
				// It goes on.
				if x.Records() == n-1 {
					want(t, x, changes()[n-1], api.Answer{})
				}
				if raw(x.All()) != told(t, l...) || raw(open(t, fs.Crash(nil)).All()) != told(t, l...) {
					t.Fatalf("%d, step %d: %s", n, steps, raw(x.All()))
				}
			}
			if steps < 5 {
				t.Fatalf("%d: %d steps", n, steps)
			}
		}
	}
}

// wantStopped asks that nothing is changed behind a step that failed, and that looks are answered as ahead of it.
func wantStopped(t *testing.T, x *engine.Engine) {
	t.Helper()
	wantErr(t, x, api.ErrStop, "publish z@1.0.0 ", "publish z@1.0.0 let x = ;", "yank z@1.0.0", "unyank a@1.0.0")
	wantErr(t, x, api.ErrNone, "query z@1.0.0", "resolve z@1.0.0")
	want(t, x, "client let x = 1;", api.Answer{})
	want(t, x, "versions z", api.Answer{})
	if got := x.Ask(api.Command{Kind: api.CmdPublish}); got.Err != api.ErrArg {
		t.Fatal(got)
	}
}

// wantOneOf asks that an engine has what was answered, or that and the one that was under way.
func wantOneOf(t *testing.T, x *engine.Engine, l []api.Command, answered int) {
	t.Helper()
	n := x.Records()
	if n != answered && n != answered+1 || raw(x.All()) != told(t, l[:n]...) {
		t.Fatalf("%d records of %d: %s", n, answered, raw(x.All()))
	}
}

// P24.2: no room: nothing is changed, and the journal is not stopped.
func TestNoRoom(t *testing.T) {
	full := 0
	for capacity := 1; capacity < 14; capacity++ {
		fs, _ := vfs.New(capacity)
		if engine.Format(fs) != api.OK {
			continue
		}
		x := open(t, fs)
		var l []api.Command
		for i := range 200 {
			c := cmd(t, fmt.Sprintf("publish p%d@1.0.0 %s", i, g))
			before := look(x)
			a := x.Ask(c)
			if a.Err == api.ErrSpace {
				full++
				if look(x) != before || raw(a) != raw(api.Answer{Err: api.ErrSpace}) {
					t.Fatalf("%d: %s, %s", capacity, raw(a), look(x))
				}
				break
			}
			if l = append(l, c); a.Err != api.OK {
				t.Fatalf("%d: %s", capacity, raw(a))
			}
		}
		if raw(open(t, fs.Crash(nil)).All()) != told(t, l...) {
			t.Fatalf("%d: something is not there", capacity)
		}
	}
	if full < 8 {
		t.Fatal(full)
	}
}

// someChange is any command that may mutate, of few packages.
func someChange(t *testing.T, d *rand.Rand) api.Command {
	p := pick(d, "a", "b") + "@" + pick(d, "1.0.0", "1.0.1", "1.1.0", "2.0.0", "1.2.0")
	return cmd(t, pick(d, "publish "+p+" "+pick(d, f, g, g, "", "import A = a@1.0.0; let h = A.f; export h;"), "yank "+p, "unyank "+p))
}

// P24.5, P24.6, P24.7: whatever fails, and whatever a crash leaves, what was answered is there.
func TestAny(t *testing.T) {
	d := rand.New(rand.NewPCG(24, 5))
	crashes, ways := 0, 0
	for range 150 {
		x, fs := some(t)
		var answered []api.Command
		for range 60 {
			var way []api.Command
			if d.IntN(3) == 0 {
				fs.Fail(d.IntN(9))
			} else if d.IntN(12) == 0 {
				fs.Power(d.IntN(9))
			}
			c := someChange(t, d)
			before := look(x)
			switch a := x.Ask(c); a.Err {
			case api.OK:
				answered = append(answered, c)
			case api.ErrIO, api.ErrPower:
				way = append(way, c)
				ways++
			default:
				if look(x) != before {
					t.Fatalf("%s: %s has changed something", raw(c), raw(a))
				}
			}
			if d.IntN(4) == 0 || len(way) > 0 {
				crashes++
				if fs = someCrash(d, fs); d.IntN(2) == 0 {
					fs = someCrash(d, fs)
				}
				x = open(t, fs)
				wantOneOf(t, x, append(answered[:len(answered):len(answered)], way...), len(answered))
				if x.Records() > len(answered) {
					answered = append(answered, way...)
				}
				// Opened anew it is the same.
				if look(open(t, fs)) != look(x) {
					t.Fatal("opened anew it is another one")
				}
			}
			fs.Fail(-1)
		}
	}
	if crashes < 500 || ways < 200 {
		t.Fatal(crashes, ways)
	}
}
