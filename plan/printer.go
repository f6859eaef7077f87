package plan

import (
	"strings"

	"lockstep/api"
	"lockstep/parse"
	"lockstep/through"
)

// printer puts a text together, and notes whether there is something that has none.
type printer struct {
	strings.Builder
	froms   []through.From
	isWrong bool
}

// access writes a line.
func (w *printer) access(a *api.Access) {
	cols, can := keyColumns(w.froms, a)
	if !can {
		w.isWrong = true
		return
	}
	f := &w.froms[a.From]
	name := "all"
	if a.Key >= 0 {
		name = f.Form.Keys[a.Key].Name
	}
	w.WriteString(f.As + " " + name)
	eachBound(a, cols, func(col int, sign string, other *api.Expr) {
		text, why := parse.PrintExpr(*other)
		w.isWrong = w.isWrong || why != api.OK
		w.WriteString(" " + f.Form.Cols[col].Name + " " + sign + " " + text)
	})
	w.WriteString("\n")
}
