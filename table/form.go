package table

import (
	"slices"
	"strings"
	"unicode/utf8"

	"lockstep/api"
	"lockstep/value"
)

// maxKeys is how many keys a table has at most.
const maxKeys = 16

// Check tells what is wrong with a table's form.
func Check(t api.Table) api.Errno {
	if !isName(t.Name) {
		return api.ErrName
	}
	for _, check := range []func(api.Table) api.Errno{checkCols, checkKeys, checkPrimary, checkNumbers} {
		if why := check(t); why != api.OK {
			return why
		}
	}
	return api.OK
}

// Fits tells what is wrong with a row of a table.
func Fits(t api.Table, r api.Row) api.Errno {
	if why := Check(t); why != api.OK {
		return why
	}
	return fits(t.Cols, r)
}

func isName(s string) bool {
	return len(s) >= 1 && len(s) <= api.MaxName && utf8.ValidString(s) && strings.IndexByte(s, 0) < 0
}

func checkCols(t api.Table) api.Errno {
	if len(t.Cols) > api.MaxCols {
		return api.ErrLong
	}
	if len(t.Cols) == 0 {
		return api.ErrArg
	}
	for i, c := range t.Cols {
		twice := slices.ContainsFunc(t.Cols[:i], func(ahead api.Column) bool { return ahead.Name == c.Name })
		if twice || !isName(c.Name) {
			return api.ErrName
		}
		if c.Type < api.BigInt || c.Type > api.Bool {
			return api.ErrType
		}
		if !hasMost(c) {
			return api.ErrArg
		}
	}
	return api.OK
}

// hasMost tells whether a column's Most can be: of a Text alone it says something.
func hasMost(c api.Column) bool {
	if c.Type == api.Text {
		return c.Most >= 1 && c.Most <= api.MaxText
	}
	return c.Most == 0
}

func checkKeys(t api.Table) api.Errno {
	if len(t.Keys) > maxKeys {
		return api.ErrLong
	}
	if len(t.Keys) == 0 {
		return api.ErrPrimary
	}
	for i, k := range t.Keys {
		twice := slices.ContainsFunc(t.Keys[:i], func(ahead api.Key) bool { return ahead.Name == k.Name })
		if twice || !isName(k.Name) {
			return api.ErrName
		}
		if !hasCols(k, len(t.Cols)) {
			return api.ErrArg
		}
	}
	return api.OK
}

// hasCols tells whether a key's columns can be, in a table of so many.
func hasCols(k api.Key, cols int) bool {
	if len(k.Cols) == 0 || len(k.Cols) > api.MaxKey {
		return false
	}
	for i, c := range k.Cols {
		if c < 0 || c >= cols || slices.Contains(k.Cols[:i], c) {
			return false
		}
	}
	return true
}

func checkPrimary(t api.Table) api.Errno {
	mayBeNull := func(col int) bool { return !t.Cols[col].NotNull }
	if !t.Keys[0].Unique || slices.ContainsFunc(t.Keys[0].Cols, mayBeNull) {
		return api.ErrPrimary
	}
	return api.OK
}

func checkNumbers(t api.Table) api.Errno {
	if t.Part >= 0 && !slices.Contains(t.Keys[0].Cols, t.Part) {
		return api.ErrArg
	}
	if t.Most < 1 || t.Most > api.MaxRows {
		return api.ErrArg
	}
	return api.OK
}

// keptForm is a form in memory of its own, with one number for all that are no Part.
func keptForm(t api.Table) api.Table {
	t.Part = max(t.Part, -1)
	t.Cols = slices.Clone(t.Cols)
	t.Keys = slices.Clone(t.Keys)
	for i, k := range t.Keys {
		t.Keys[i].Cols = slices.Clone(k.Cols)
	}
	return t
}

func fits(cols []api.Column, r api.Row) api.Errno {
	if len(r) != len(cols) {
		return api.ErrArg
	}
	for i, v := range r {
		if why := fitsCol(cols[i], v); why != api.OK {
			return why
		}
	}
	return api.OK
}

func fitsCol(c api.Column, v api.Value) api.Errno {
	why := value.Check(v)
	switch {
	case why != api.OK:
		return why
	case isNull(v) && c.NotNull:
		return api.ErrNull
	case isNull(v):
		return api.OK
	case v.Type != c.Type:
		return api.ErrType
	case v.Type == api.Text && len(v.Text) > c.Most:
		return api.ErrLong
	}
	return api.OK
}

func isNull(v api.Value) bool { return v.Type == api.Null }

// keptRow is a row that fits in memory of its own. Cast to the type that it has already, a value loses what that does not name.
func keptRow(cols []api.Column, r api.Row) api.Row {
	kept := make(api.Row, len(r))
	for i, v := range r {
		kept[i], _ = value.Cast(v, cols[i].Type)
	}
	return kept
}

// keyOf is a row's key.
func keyOf(k api.Key, r api.Row) api.Row {
	key := make(api.Row, len(k.Cols))
	for i, col := range k.Cols {
		key[i] = r[col]
	}
	return key
}
