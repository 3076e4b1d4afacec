package tool

import (
	"slices"
	"strconv"
	"strings"

	"touchstone/api"
	"touchstone/command"
)

// endMark is the mark behind each source that is told.
const endMark = "END"

// commandWords are the commands' words, by their kinds.
func commandWords() []string {
	return []string{api.CmdPublish: "publish", api.CmdYank: "yank", api.CmdUnyank: "unyank", api.CmdQuery: "query", api.CmdVersions: "versions", api.CmdClassify: "classify", api.CmdClient: "client", api.CmdResolve: "resolve", api.CmdRecover: "recover", api.CmdFsck: "fsck"}
}

// kindOf is the kind of a command's word; of others 0, which is none.
func kindOf(word string) int { return max(slices.Index(commandWords(), word), 0) }

// mayTell tells whether a script can tell an act.
func mayTell(a api.Act) bool {
	if len(a.Files) > 0 || a.Kind != api.ActCrash && len(a.Turns) > 0 || a.Kind != api.ActAsk && a.Command != (api.Command{}) {
		return false
	}
	switch a.Kind {
	case api.ActAsk:
		return a.N == 0 && command.Right(a.Command) && mayTellSource(a.Command.Source)
	case api.ActFail, api.ActPower:
		return isNumber(a.N)
	case api.ActCrash:
		return a.N == 0 && !slices.ContainsFunc(a.Turns, func(n int) bool { return !isNumber(n) })
	}
	return false
}

func mayTellSource(s string) bool {
	return (s == "" || strings.HasSuffix(s, "\n")) && !slices.Contains(strings.Split(s, "\n"), endMark)
}

func isNumber(n int) bool { return n >= 0 && n <= mostNumber }

// writer tells lines.
type writer struct{ strings.Builder }

// line tells words, and numbers, with blanks between.
func (w *writer) line(l ...any) {
	for i, x := range l {
		if i > 0 {
			w.WriteByte(' ')
		}
		switch x := x.(type) {
		case string:
			w.WriteString(x)
		case int:
			w.WriteString(strconv.Itoa(x))
		case api.Pin:
			w.WriteString(x.Pkg + "@" + strconv.Itoa(x.Major) + "." + strconv.Itoa(x.Minor) + "." + strconv.Itoa(x.Patch))
		}
	}
	w.WriteByte('\n')
}

func (w *writer) act(a api.Act) {
	switch a.Kind {
	case api.ActAsk:
		w.command(a.Command)
	case api.ActFail:
		w.line("fail", a.N)
	case api.ActPower:
		w.line("power", a.N)
	case api.ActCrash:
		words := []any{"crash"}
		for _, n := range a.Turns {
			words = append(words, n)
		}
		w.line(words...)
	}
}

func (w *writer) command(c api.Command) {
	words := []any{commandWords()[c.Kind]}
	switch c.Kind {
	case api.CmdVersions:
		words = append(words, c.Pin.Pkg)
	case api.CmdClassify:
		words = append(words, c.Pin, c.Other)
	case api.CmdYank, api.CmdUnyank, api.CmdQuery, api.CmdResolve:
		words = append(words, c.Pin)
	case api.CmdPublish:
		words = append(words, c.Pin)
		fallthrough
	case api.CmdClient:
		w.line(append(words, "<<", endMark)...)
		w.WriteString(c.Source)
		words = []any{endMark}
	}
	w.line(words...)
}

func (w *writer) answer(a api.Answer) {
	if a.Err == api.OK {
		w.line("ok")
	} else {
		w.line("error", int(a.Err))
	}
	if a.At != 0 {
		w.line("at", a.At)
	}
	if a.Gap != 0 {
		w.line("gap", a.Gap)
	}
	if c := a.Change; c != (api.Change{}) {
		words := []any{"change", c.Kind}
		for _, name := range []string{c.Name, c.Con} {
			if name != "" {
				words = append(words, name)
			}
		}
		w.line(words...)
	}
	for _, p := range a.Pins {
		w.line("pin", p)
	}
	if a.Yanked {
		w.line("yanked")
	}
	if r := a.Report; r != (api.Report{}) {
		w.line("report", r.Segments, r.Records, r.Loose, r.Strange)
	}
	if a.Text != "" {
		w.line("text", len(a.Text))
		w.line(a.Text)
	}
}
