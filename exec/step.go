package exec

import (
	"lockstep/api"
	"lockstep/beside"
	"lockstep/table"
	"lockstep/value"
)

// step is how rows of a table are come to, beside rows of those ahead.
type step struct {
	table         *table.Table
	key           int
	same          []*end
	low, high     *end
	lowIn, highIn bool
	isFixed       bool // whatever rows stand ahead
	isKnown       bool
	known         []api.Kept // of what is fixed, once it was looked for
}

// end is what a column of a key is held against, and that column's type.
type end struct {
	term beside.Term
	typ  int
}

// step is how a table, by its place, is come to by an access.
func (s *scene) step(place int, a *api.Access, sees beside.Sight) step {
	form := &s.Forms[place]
	t := step{table: s.tables[place], key: a.Key, lowIn: a.LowIn, highIn: a.HighIn, isFixed: true}
	against := func(no int, e api.Expr) *end {
		if e.Op == "" {
			return nil
		}
		term := s.Term(e, sees)
		t.isFixed = t.isFixed && term.Needs() == 0
		return &end{term, form.Cols[form.Keys[a.Key].Cols[no]].Type}
	}
	for i, e := range a.Same {
		t.same = append(t.same, against(i, e))
	}
	t.low = against(len(a.Same), a.Low)
	t.high = against(len(a.Same), a.High)
	return t
}

// come is the rows that a table is to be looked through for. What hangs on no rows ahead is looked for just once.
func (t *step) come(rows beside.Rows) []api.Kept {
	if t.isKnown {
		return t.known
	}
	l := t.find(rows)
	if t.isFixed {
		t.known, t.isKnown = l, true
	}
	return l
}

func (t *step) find(rows beside.Rows) []api.Kept {
	if t.key < 0 {
		return t.table.Rows()
	}
	b, can := t.bounds(rows)
	if !can {
		return nil
	}
	found, _ := t.table.Range(t.key, b) // of a key that is there
	var l []api.Kept
	for id, r := range found {
		l = append(l, api.Kept{ID: id, Row: r})
	}
	return l
}

// bounds is between which keys the rows lie for which none of the conditions that the access goes by is FALSE or NULL, and whether there may be such. What errs, errs beside all rows: it leaves none of them out.
func (t *step) bounds(rows beside.Rows) (api.Bounds, bool) {
	b := api.Bounds{LowIn: true, HighIn: true}
	can := true
	cut := func(e *end, ends ...*api.Row) bool {
		if e == nil {
			return false
		}
		v, why := e.of(rows)
		if why != api.OK {
			return false
		}
		can = can && v.Type != api.Null
		for _, r := range ends {
			*r = append(*r, v)
		}
		return true
	}
	for _, e := range t.same {
		if !cut(e, &b.Low, &b.High) {
			return b, can
		}
	}
	if cut(t.low, &b.Low) {
		b.LowIn = t.lowIn
	}
	if cut(t.high, &b.High) {
		b.HighIn = t.highIn
	}
	return b, can
}

// of is what an end comes to, as a value of the column's type, as all others stand elsewhere among its values. (A BIGINT that is no DECIMAL errs here, not in a condition: by that one nothing is left out either.)
func (e *end) of(rows beside.Rows) (api.Value, api.Errno) {
	v, why := e.term.Of(rows)
	if why != api.OK {
		return v, why
	}
	return value.Cast(v, e.typ)
}
