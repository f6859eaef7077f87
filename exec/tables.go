package exec

import (
	"slices"

	"lockstep/api"
	"lockstep/table"
)

// numbered is rows under the numbers 1, 2, ..
func numbered(rows []api.Row) []api.Kept {
	l := make([]api.Kept, 0, len(rows))
	for i, r := range rows {
		l = append(l, api.Kept{ID: uint64(i) + 1, Row: r})
	}
	return l
}

// rowsOf is a table's rows, by their numbers; of no table none.
func rowsOf(t *table.Table) []api.Row {
	if t == nil {
		return nil
	}
	rows := make([]api.Row, 0, t.Len())
	for _, r := range t.Scan() {
		rows = append(rows, r)
	}
	return rows
}

// areOf tells whether tables are of these forms, each at its place.
func areOf(l []*table.Table, forms []api.Table) bool {
	return slices.EqualFunc(l, forms, func(t *table.Table, form api.Table) bool {
		return t != nil && isSameForm(t.Form(), form)
	})
}

func isSameForm(a, b api.Table) bool {
	isSameKey := func(k, o api.Key) bool {
		return k.Name == o.Name && k.Unique == o.Unique && slices.Equal(k.Cols, o.Cols)
	}
	return a.Name == b.Name && a.Part == b.Part && a.Most == b.Most &&
		slices.Equal(a.Cols, b.Cols) && slices.EqualFunc(a.Keys, b.Keys, isSameKey)
}
