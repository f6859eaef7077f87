package bag

import (
	"slices"

	"lockstep/api"
	"lockstep/value"
)

// item is something that a SELECT answers, of rows side by side that are a group.
type item struct {
	agg            string
	star, distinct bool
	term           term
}

func (s *scene) items(l []api.Item, sees sight) []item {
	items := make([]item, 0, len(l))
	for _, m := range l {
		if m.Agg != "" && m.Star { // its expression plays no part
			items = append(items, item{agg: m.Agg, star: true})
			continue
		}
		items = append(items, item{agg: m.Agg, distinct: m.Distinct, term: s.term(m.Expr, sees)})
	}
	return items
}

// answerOf is the row that a group answers, or the least error.
func answerOf(items []item, group []side) (api.Row, api.Errno) {
	row := make(api.Row, 0, len(items))
	least := api.OK
	for i := range items {
		v, why := items[i].over(group)
		row = append(row, v)
		least = lesser(least, why)
	}
	return row, least
}

// errorOf is the least error that items have in rows side by side by themselves.
func errorOf(items []item, rows side) api.Errno {
	least := api.OK
	for i := range items {
		if !items[i].star {
			_, why := items[i].term.of(rows)
			least = lesser(least, why)
		}
	}
	return least
}

// over is what an item comes to. What is no aggregate is the same in all rows of a group, or needs none.
func (m *item) over(group []side) (api.Value, api.Errno) {
	switch {
	case m.star:
		return bigint(len(group)), api.OK
	case m.agg != "":
		values, why := m.values(group)
		if why != api.OK {
			return api.Value{}, why
		}
		return aggregate(m.agg, values)
	case len(group) == 0:
		return m.term.of(nil)
	}
	return m.term.of(group[0])
}

// values is those that an aggregate is reckoned of.
func (m *item) values(group []side) ([]api.Value, api.Errno) {
	var values []api.Value
	least := api.OK
	for _, rows := range group {
		v, why := m.term.of(rows)
		least = lesser(least, why)
		if v.Type != api.Null {
			values = append(values, v)
		}
	}
	if least != api.OK {
		return nil, least
	}
	if m.distinct {
		slices.SortFunc(values, value.Order)
		values = slices.CompactFunc(values, value.Same)
	}
	return values, api.OK
}
