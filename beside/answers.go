package beside

import (
	"slices"

	"lockstep/api"
	"lockstep/value"
)

// Limit is how many rows a SELECT answers at most. Without one, there are no more than there may be.
func (s *Scene) Limit(e api.Expr) (int, api.Errno) {
	if e.Op == "" {
		return api.MaxAnswer, api.OK
	}
	t := s.Term(e, Sight{})
	v, _ := t.Of(nil) // a number or a parameter: neither errs
	if v.Type == api.Null || v.Int < 0 {
		return 0, api.ErrArg
	}
	return int(min(v.Int, api.MaxAnswer)), api.OK
}

// ordering orders rows as a SELECT asks for; those that are the same in that by all that they are.
func ordering(l []api.Order, answered []api.Col) func(a, b api.Row) int {
	cols := make([]int, 0, len(l))
	for _, o := range l {
		isMeant := func(c api.Col) bool { return c.Name == o.Name }
		cols = append(cols, slices.IndexFunc(answered, isMeant))
	}
	return func(a, b api.Row) int {
		for i, col := range cols {
			c := value.Order(a[col], b[col])
			if l[i].Desc {
				c = -c
			}
			if c != 0 {
				return c
			}
		}
		return value.Rows(a, b)
	}
}

// Answers is the rows that are answered, as they come.
type Answers struct {
	having   Condition
	order    func(a, b api.Row) int
	distinct bool
	rows     []api.Row
	isMany   bool
	wrong    api.Errno // of having
}

// Answers is those of a SELECT that answers such columns, as long as there are none.
func (s *Scene) Answers(x *api.Stmt, answered []api.Col) *Answers {
	having := s.Condition(x.Having, sightOf(answered))
	return &Answers{having: having, order: ordering(x.Order, answered), distinct: x.Distinct}
}

// Add takes a row in, if it may be answered. No more are kept than tell that they are too many: of all ways there are far more.
func (a *Answers) Add(r api.Row) {
	holds, why := a.having.Holds(Rows{r})
	a.wrong = Lesser(a.wrong, why)
	if !holds || a.isMany {
		return
	}
	a.rows = append(a.rows, r)
	if len(a.rows) > 2*api.MaxAnswer {
		a.settle()
	}
}

// settle puts the rows in order, in which those that are the same stand beside each other.
func (a *Answers) settle() {
	slices.SortFunc(a.rows, a.order)
	if a.distinct {
		a.rows = slices.CompactFunc(a.rows, func(r, o api.Row) bool { return value.Rows(r, o) == 0 })
	}
	a.isMany = len(a.rows) > api.MaxAnswer
}

// First is the first so many rows.
func (a *Answers) First(limit int) ([]api.Row, api.Errno) {
	if a.wrong != api.OK {
		return nil, a.wrong
	}
	a.settle()
	if a.isMany {
		return nil, api.ErrLong
	}
	limit = min(limit, len(a.rows))
	return a.rows[:limit:limit], api.OK
}
