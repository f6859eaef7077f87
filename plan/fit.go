package plan

import (
	"lockstep/api"
	"lockstep/through"
)

// isPlan tells whether accesses come to all rows that a statement must look at.
func (s *scene) isPlan(l []api.Access) bool {
	var gone ahead
	for i := range l {
		a := &l[i]
		cols, can := keyColumns(s.froms, a)
		if !can || gone[a.From] || !s.fits(a, cols, gone) {
			return false
		}
		gone[a.From] = true
	}
	return len(l) == len(s.froms)
}

// keyColumns is the columns of the key by which a table is come to (of all its rows: none), and whether there are such, and as many as are asked for.
func keyColumns(froms []through.From, a *api.Access) ([]int, bool) {
	if a.From < 0 || a.From >= len(froms) {
		return nil, false
	}
	keys := froms[a.From].Form.Keys
	if a.Key < -1 || a.Key >= len(keys) {
		return nil, false
	}
	var cols []int
	if a.Key >= 0 {
		cols = keys[a.Key].Cols
	}
	asked := len(a.Same)
	if a.Low.Op != "" || a.High.Op != "" {
		asked++
	}
	return cols, asked <= len(cols)
}

// fits tells whether conditions say all that an access goes by.
func (s *scene) fits(a *api.Access, cols []int, gone ahead) bool {
	fits := true
	eachBound(a, cols, func(col int, sign string, other *api.Expr) {
		fits = fits && s.says(spot{a.From, col}, gone, sign, other)
	})
	return fits
}

// eachBound tells what an access goes by, column by column of its key, as the conditions say it.
func eachBound(a *api.Access, cols []int, tell func(col int, sign string, other *api.Expr)) {
	for i := range a.Same {
		tell(cols[i], "=", &a.Same[i])
	}
	if a.Low.Op != "" {
		tell(cols[len(a.Same)], orSame(">", a.LowIn), &a.Low)
	}
	if a.High.Op != "" {
		tell(cols[len(a.Same)], orSame("<", a.HighIn), &a.High)
	}
}

// orSame is a sign of what may be the same, too.
func orSame(sign string, in bool) string {
	if in {
		return sign + "="
	}
	return sign
}
