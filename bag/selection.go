package bag

import (
	"slices"

	"lockstep/api"
	"lockstep/value"
)

// selection is what a SELECT answers.
func (s *scene) selection(x *api.Stmt, answered []api.Col) ([]api.Row, api.Errno) {
	limit, why := s.limit(x.Limit)
	if why != api.OK {
		return nil, why
	}
	j := s.join(x)
	if j.isMany() {
		return nil, api.ErrLong
	}
	held, why := j.held()
	if why != api.OK {
		return nil, why
	}
	items := s.items(x.Items, j.sees)
	groups, wrong := s.groups(x, j.sees, items, held)
	a := answers{having: s.condition(x.Having, sightOf(answered)), order: ordering(x.Order, answered), distinct: x.Distinct}
	for _, g := range groups {
		row, why := answerOf(items, g)
		wrong = lesser(wrong, why)
		if wrong == api.OK {
			a.add(row)
		}
	}
	if wrong != api.OK {
		return nil, wrong
	}
	return a.first(limit)
}

// limit is how many rows are answered at most. Without one, there are no more than there may be.
func (s *scene) limit(e api.Expr) (int, api.Errno) {
	if e.Op == "" {
		return api.MaxAnswer, api.OK
	}
	t := s.term(e, sight{})
	v, why := t.of(nil)
	if why != api.OK {
		return 0, why
	}
	if v.Type == api.Null || v.Int < 0 {
		return 0, api.ErrArg
	}
	return int(min(v.Int, api.MaxAnswer)), api.OK
}

// ordering orders rows as a SELECT asks for; those that are the same in that by all that they are.
func ordering(l []api.Order, answered []api.Col) func(a, b api.Row) int {
	cols := make([]int, 0, len(l))
	for _, o := range l {
		isMeant := func(c api.Col) bool { return c.Name == o.Name }
		cols = append(cols, slices.IndexFunc(answered, isMeant))
	}
	return func(a, b api.Row) int {
		for i, col := range cols {
			c := value.Order(a[col], b[col])
			if l[i].Desc {
				c = -c
			}
			if c != 0 {
				return c
			}
		}
		return value.Rows(a, b)
	}
}

// answers is the rows that are answered, as they come.
type answers struct {
	having   condition
	order    func(a, b api.Row) int
	distinct bool
	rows     []api.Row
	isMany   bool
	wrong    api.Errno // of having
}

// add takes a row in, if it may be answered. No more are kept than tell that they are too many: of all ways there are far more.
func (a *answers) add(r api.Row) {
	holds, why := a.having.holds(side{r})
	a.wrong = lesser(a.wrong, why)
	if !holds || a.isMany {
		return
	}
	a.rows = append(a.rows, r)
	if len(a.rows) > 2*api.MaxAnswer {
		a.settle()
	}
}

// settle puts the rows in order, in which those that are the same stand beside each other.
func (a *answers) settle() {
	slices.SortFunc(a.rows, a.order)
	if a.distinct {
		a.rows = slices.CompactFunc(a.rows, func(r, o api.Row) bool { return value.Rows(r, o) == 0 })
	}
	a.isMany = len(a.rows) > api.MaxAnswer
}

// first is the first so many rows.
func (a *answers) first(limit int) ([]api.Row, api.Errno) {
	if a.wrong != api.OK {
		return nil, a.wrong
	}
	a.settle()
	if a.isMany {
		return nil, api.ErrLong
	}
	limit = min(limit, len(a.rows))
	return a.rows[:limit:limit], api.OK
}
