package bag

import (
	"slices"

	"lockstep/api"
	"lockstep/beside"
	"lockstep/value"
)

// check tells what is wrong with tables of these forms: of all tables, what comes first in this order, not what comes in the first table.
func check(forms []api.Table, d api.Data) api.Errno {
	if len(d) != len(forms) {
		return api.ErrArg
	}
	one := func(wrong func(form *api.Table, rows []api.Row) bool) bool {
		for i := range forms {
			if wrong(&forms[i], d[i]) {
				return true
			}
		}
		return false
	}
	switch {
	case one(hasOdd):
		return api.ErrArg
	case one(hasNull):
		return api.ErrNull
	case one(hasLong):
		return api.ErrLong
	case one(hasTwice):
		return api.ErrTwice
	case one(hasMore):
		return api.ErrFull
	}
	return api.OK
}

// hasOdd tells whether a row has another number of values than there are columns, or a value can't be, or is of another type.
func hasOdd(form *api.Table, rows []api.Row) bool {
	isShort := func(r api.Row) bool { return len(r) != len(form.Cols) }
	isOdd := func(v api.Value, c *api.Column) bool { return !beside.IsOf(v, c.Type) }
	return slices.ContainsFunc(rows, isShort) || hasSuch(form, rows, isOdd)
}

func hasNull(form *api.Table, rows []api.Row) bool {
	return hasSuch(form, rows, func(v api.Value, c *api.Column) bool { return v.Type == api.Null && c.NotNull })
}

func hasLong(form *api.Table, rows []api.Row) bool {
	return hasSuch(form, rows, func(v api.Value, c *api.Column) bool { return v.Type == api.Text && len(v.Text) > c.Most })
}

// hasSuch tells whether one of the rows, which have as many values as there are columns, has such a value.
func hasSuch(form *api.Table, rows []api.Row, is func(v api.Value, c *api.Column) bool) bool {
	for _, r := range rows {
		for i, v := range r {
			if is(v, &form.Cols[i]) {
				return true
			}
		}
	}
	return false
}

func hasTwice(form *api.Table, rows []api.Row) bool {
	for _, k := range form.Keys {
		if k.Unique && areTwice(keysOf(rows, k.Cols)) {
			return true
		}
	}
	return false
}

// keysOf is the rows' values in the columns of a key, without those that have a NULL in them: they are the same as no other one.
func keysOf(rows []api.Row, cols []int) []api.Row {
	keys := make([]api.Row, 0, len(rows))
	block := make(api.Row, 0, len(rows)*len(cols))
	isNull := func(v api.Value) bool { return v.Type == api.Null }
	for _, r := range rows {
		begin := len(block)
		for _, col := range cols {
			block = append(block, r[col])
		}
		if key := block[begin:len(block):len(block)]; !slices.ContainsFunc(key, isNull) {
			keys = append(keys, key)
		}
	}
	return keys
}

// areTwice tells whether two of the keys are the same. It puts them in order.
func areTwice(keys []api.Row) bool {
	slices.SortFunc(keys, value.Rows)
	for i := 1; i < len(keys); i++ {
		if value.Rows(keys[i-1], keys[i]) == 0 {
			return true
		}
	}
	return false
}

func hasMore(form *api.Table, rows []api.Row) bool {
	return len(rows) > form.Most
}
