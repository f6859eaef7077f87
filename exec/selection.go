package exec

import (
	"lockstep/aggr"
	"lockstep/api"
	"lockstep/beside"
)

// selection is what a SELECT answers.
func (s *scene) selection(p *api.Plan, answered []api.Col) ([]api.Row, api.Errno) {
	x := &p.Stmt
	limit, why := s.Limit(x.Limit)
	if why != api.OK {
		return nil, why
	}
	w := s.way(p)
	if w.isMany() {
		return nil, api.ErrLong
	}
	g := s.gathering(x, w.Sees, answered)
	least := api.OK
	w.tell(func(_ uint64, rows beside.Rows, why api.Errno) {
		least = beside.Lesser(least, why)
		if least == api.OK {
			g.take(rows)
		}
	})
	if least != api.OK {
		return nil, least
	}
	return g.first(limit)
}

// gathering is what a SELECT answers of rows side by side, as these come.
type gathering struct {
	items     []beside.Item
	types     []int // of what the items are aggregates of
	isGrouped bool
	by        *beside.Groups
	groups    [][]cell // by their numbers
	answers   *beside.Answers
	wrong     api.Errno // the least error of items, and of what they are grouped by
}

func (s *scene) gathering(x *api.Stmt, sees beside.Sight, answered []api.Col) *gathering {
	g := &gathering{items: s.Items(x.Items, sees), by: s.Groups(x.Group, sees), answers: s.Answers(x, answered)}
	for i := range g.items {
		g.types = append(g.types, g.items[i].Term.Type())
	}
	isWhole := len(x.Group) == 0 && beside.HasAgg(g.items)
	g.isGrouped = isWhole || len(x.Group) > 0
	if isWhole { // all rows are one group, also if there are none
		g.groups = append(g.groups, g.begun(nil))
	}
	return g
}

// take takes rows in that stand side by side.
func (g *gathering) take(rows beside.Rows) {
	if !g.isGrouped {
		g.tell(g.begun(rows))
		return
	}
	no, why := g.by.Of(rows)
	if why != api.OK {
		g.wrong = beside.Lesser(g.wrong, beside.Lesser(why, beside.ErrorOf(g.items, rows)))
		return
	}
	if no == len(g.groups) {
		g.groups = append(g.groups, g.begun(rows))
	}
	for i := range g.items {
		g.groups[no][i].add(&g.items[i], rows)
	}
}

// begun is a group of which rows are the first ones, ahead of aggregates of these.
func (g *gathering) begun(rows beside.Rows) []cell {
	cells := make([]cell, len(g.items))
	for i := range g.items {
		cells[i].begin(&g.items[i], g.types[i], rows)
	}
	return cells
}

// tell lets a group answer its row, unless something has erred.
func (g *gathering) tell(group []cell) {
	row := make(api.Row, 0, len(group))
	for i := range group {
		v, why := group[i].value()
		row = append(row, v)
		g.wrong = beside.Lesser(g.wrong, why)
	}
	if g.wrong == api.OK {
		g.answers.Add(row)
	}
}

// first is the first so many rows of the answer, behind all that came.
func (g *gathering) first(limit int) ([]api.Row, api.Errno) {
	for _, group := range g.groups {
		g.tell(group)
	}
	if g.wrong != api.OK {
		return nil, g.wrong
	}
	return g.answers.First(limit)
}

// cell is what an item comes to in a group, as far as its rows came.
type cell struct {
	part *aggr.Part             // of an aggregate
	once map[api.Value]struct{} // of one of each value once: a part by itself would hold fewer values than rows side by side may have
	one  api.Value              // of what is none
	why  api.Errno
}

// begin is ahead of all rows. What is no aggregate is the same in all of them, or needs none.
func (c *cell) begin(m *beside.Item, typ int, rows beside.Rows) {
	if m.Agg == "" {
		c.one, c.why = m.Term.Of(rows)
		return
	}
	c.part, _ = aggr.New(m.Agg, m.Star, false, typ) // the catalog has looked at all that may be wrong
	if m.Distinct {
		c.once = map[api.Value]struct{}{}
	}
}

// add takes in what an aggregate is reckoned of. (Values of the item's type, and fewer than a part holds at most, are not refused.)
func (c *cell) add(m *beside.Item, rows beside.Rows) {
	switch {
	case m.Agg == "":
		return
	case m.Star:
		c.part.Add(api.Value{})
		return
	}
	v, why := m.Term.Of(rows)
	c.why = beside.Lesser(c.why, why)
	if c.once != nil {
		if _, is := c.once[v]; is {
			return
		}
		c.once[v] = struct{}{}
	}
	c.part.Add(v)
}

// value is what it came to. An aggregate of which a value errs is not reckoned.
func (c *cell) value() (api.Value, api.Errno) {
	if c.part == nil || c.why != api.OK {
		return c.one, c.why
	}
	return c.part.Value()
}
