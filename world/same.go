package world

import (
	"slices"

	"touchstone/api"
	"touchstone/term"
)

// isSame tells whether two releases are alike in all that is in them.
func isSame(a, b api.Release) bool {
	return a.Pin == b.Pin && a.Source == b.Source && a.Yanked == b.Yanked && slices.Equal(a.Pins, b.Pins) &&
		slices.EqualFunc(a.Iface.Types, b.Iface.Types, isSameType) && slices.EqualFunc(a.Iface.Vals, b.Iface.Vals, isSameVal)
}

func isSameType(a, b api.TypeDef) bool {
	return a.Name == b.Name && slices.Equal(a.Params, b.Params) && slices.EqualFunc(a.Cons, b.Cons, isSameCon)
}

func isSameCon(a, b api.Con) bool {
	return a.Name == b.Name && slices.EqualFunc(a.Args, b.Args, term.Same)
}

func isSameVal(a, b api.Val) bool { return a.Name == b.Name && term.Same(a.Type, b.Type) }
