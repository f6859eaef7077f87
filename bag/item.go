package bag

import (
	"slices"

	"lockstep/api"
	"lockstep/beside"
	"lockstep/value"
)

// answerOf is the row that a group answers, or the least error.
func answerOf(items []beside.Item, group []beside.Rows) (api.Row, api.Errno) {
	row := make(api.Row, 0, len(items))
	least := api.OK
	for i := range items {
		v, why := over(&items[i], group)
		row = append(row, v)
		least = beside.Lesser(least, why)
	}
	return row, least
}

// over is what an item comes to. What is no aggregate is the same in all rows of a group, or needs none.
func over(m *beside.Item, group []beside.Rows) (api.Value, api.Errno) {
	switch {
	case m.Star:
		return bigint(len(group)), api.OK
	case m.Agg != "":
		values, why := valuesOf(m, group)
		if why != api.OK {
			return api.Value{}, why
		}
		return aggregate(m.Agg, values)
	case len(group) == 0:
		return m.Term.Of(nil)
	}
	return m.Term.Of(group[0])
}

// valuesOf is those that an aggregate is reckoned of.
func valuesOf(m *beside.Item, group []beside.Rows) ([]api.Value, api.Errno) {
	var values []api.Value
	least := api.OK
	for _, rows := range group {
		v, why := m.Term.Of(rows)
		least = beside.Lesser(least, why)
		if v.Type != api.Null {
			values = append(values, v)
		}
	}
	if least != api.OK {
		return nil, least
	}
	if m.Distinct {
		slices.SortFunc(values, value.Order)
		values = slices.CompactFunc(values, value.Same)
	}
	return values, api.OK
}
