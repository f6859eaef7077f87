package bag

import (
	"slices"

	"lockstep/api"
	"lockstep/value"
)

// change is what a statement that is no SELECT answers, and the tables behind it.
func (s *scene) change(x *api.Stmt) ([]api.Row, api.Data, api.Errno) {
	place := s.place(x.Table)
	rows, many, why := s.changed(x, place)
	if why == api.OK {
		why = check(s.forms[place:place+1], api.Data{rows})
	}
	if why != api.OK {
		return nil, nil, why
	}
	behind := slices.Clone(s.data)
	behind[place] = rows
	return []api.Row{{bigint(many)}}, copied(behind), api.OK
}

// changed is the rows of a table behind a statement, whether they may be or not, and how many it was about.
func (s *scene) changed(x *api.Stmt, place int) ([]api.Row, int, api.Errno) {
	form, rows := &s.forms[place], s.data[place]
	if x.Kind == api.Insert {
		// Cut without its spare room, which is not the program's, the list is left as it is.
		r, why := s.inserted(x, form)
		return append(rows[:len(rows):len(rows)], r), 1, why
	}
	var sees sight
	sees.widen(form.Name, form, 0)
	where := s.condition(x.Where, sees)
	if x.Kind == api.Delete {
		return without(rows, where)
	}
	return updated(rows, where, s.sets(x, form, sees))
}

// set is a column, and what it becomes.
type set struct {
	col, typ int
	term     term
}

func setOf(form *api.Table, name string, t term) set {
	isMeant := func(c api.Column) bool { return c.Name == name }
	col := slices.IndexFunc(form.Cols, isMeant)
	return set{col: col, typ: form.Cols[col].Type, term: t}
}

func (s *scene) sets(x *api.Stmt, form *api.Table, sees sight) []set {
	sets := make([]set, 0, len(x.Sets))
	for _, t := range x.Sets {
		sets = append(sets, setOf(form, t.Name, s.term(t.Expr, sees)))
	}
	return sets
}

// become is a row like another one, but for what is set, of rows side by side; or the least error.
func become(r api.Row, sets []set, of side) (api.Row, api.Errno) {
	n := slices.Clone(r)
	least := api.OK
	for i := range sets {
		v, why := sets[i].term.of(of)
		if why == api.OK {
			v, why = value.Cast(v, sets[i].typ)
		}
		n[sets[i].col] = v
		least = lesser(least, why)
	}
	return n, least
}

// inserted is the row that comes.
func (s *scene) inserted(x *api.Stmt, form *api.Table) (api.Row, api.Errno) {
	sets := make([]set, 0, len(x.Cols))
	for i, name := range x.Cols {
		sets = append(sets, setOf(form, name, s.term(x.Values[i], sight{})))
	}
	return become(make(api.Row, len(form.Cols)), sets, nil)
}

// updated is rows of which those for which a condition holds became others. An error of the condition comes ahead of all those of values.
func updated(rows []api.Row, where condition, sets []set) ([]api.Row, int, api.Errno) {
	behind := slices.Clone(rows)
	many, wrong, wrongValue := 0, api.OK, api.OK
	for i := range rows {
		one := rows[i : i+1 : i+1]
		holds, why := where.holds(one)
		wrong = lesser(wrong, why)
		if !holds {
			continue
		}
		many++
		behind[i], why = become(rows[i], sets, one)
		wrongValue = lesser(wrongValue, why)
	}
	if wrong == api.OK {
		wrong = wrongValue
	}
	return behind, many, wrong
}

// without is rows without those for which a condition holds.
func without(rows []api.Row, where condition) ([]api.Row, int, api.Errno) {
	behind := make([]api.Row, 0, len(rows))
	wrong := api.OK
	for i := range rows {
		holds, why := where.holds(rows[i : i+1 : i+1])
		wrong = lesser(wrong, why)
		if !holds {
			behind = append(behind, rows[i])
		}
	}
	return behind, len(rows) - len(behind), wrong
}
