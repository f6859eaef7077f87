// Package beside is what a statement's expressions come to beside rows that stand side by side, one of each table, however these were come to; and what is answered of them.
package beside

import (
	"slices"

	"lockstep/api"
	"lockstep/value"
)

// Rows is rows side by side, one of each table.
type Rows []api.Row

// Scene is what a statement is run beside: the forms of all tables, and parameters with their values.
type Scene struct {
	Forms  []api.Table
	Params []api.Col
	Args   api.Row
}

// Place is that of a table that is there.
func (s *Scene) Place(name string) int {
	return slices.IndexFunc(s.Forms, func(form api.Table) bool { return form.Name == name })
}

// AreAsked tells whether the values are those that the parameters ask for, each at its place.
func (s *Scene) AreAsked() bool {
	if len(s.Args) != len(s.Params) {
		return false
	}
	for i, v := range s.Args {
		if !IsOf(v, s.Params[i].Type) {
			return false
		}
	}
	return true
}

// IsOf tells whether a value can be, and is NULL or of a type.
func IsOf(v api.Value, typ int) bool {
	return value.Check(v) == api.OK && (v.Type == api.Null || v.Type == typ)
}

// Lesser is the error with the lesser number, OK being none.
func Lesser(a, b api.Errno) api.Errno {
	if a == api.OK || b != api.OK && b < a {
		return b
	}
	return a
}
