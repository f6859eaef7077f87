package bag

import (
	"slices"

	"lockstep/api"
	"lockstep/beside"
	"lockstep/kept"
)

// change is what a statement that is no SELECT answers, and the tables behind it.
func (s *scene) change(x *api.Stmt) ([]api.Row, api.Data, api.Errno) {
	place := s.Place(x.Table)
	rows, many, why := s.changed(x, place)
	if why == api.OK {
		why = check(s.Forms[place:place+1], api.Data{rows})
	}
	if why != api.OK {
		return nil, nil, why
	}
	behind := slices.Clone(s.data)
	behind[place] = rows
	return []api.Row{{bigint(many)}}, kept.Data(behind), api.OK
}

// changed is the rows of a table behind a statement, whether they may be or not, and how many it was about.
func (s *scene) changed(x *api.Stmt, place int) ([]api.Row, int, api.Errno) {
	form, rows := &s.Forms[place], s.data[place]
	if x.Kind == api.Insert {
		// Cut without its spare room, which is not the program's, the list is left as it is.
		r, why := s.Inserted(x, form)
		return append(rows[:len(rows):len(rows)], r), 1, why
	}
	var sees beside.Sight
	sees.Widen(form.Name, form, 0)
	where := s.Condition(x.Where, sees)
	if x.Kind == api.Delete {
		return without(rows, where)
	}
	return updated(rows, where, s.Sets(x, form, sees))
}

// updated is rows of which those for which a condition holds became others. An error of the condition comes ahead of all those of values.
func updated(rows []api.Row, where beside.Condition, sets []beside.Set) ([]api.Row, int, api.Errno) {
	behind := slices.Clone(rows)
	many, wrong, wrongValue := 0, api.OK, api.OK
	for i := range rows {
		one := rows[i : i+1 : i+1]
		holds, why := where.Holds(one)
		wrong = beside.Lesser(wrong, why)
		if !holds {
			continue
		}
		many++
		behind[i], why = beside.Become(rows[i], sets, one)
		wrongValue = beside.Lesser(wrongValue, why)
	}
	if wrong == api.OK {
		wrong = wrongValue
	}
	return behind, many, wrong
}

// without is rows without those for which a condition holds.
func without(rows []api.Row, where beside.Condition) ([]api.Row, int, api.Errno) {
	behind := make([]api.Row, 0, len(rows))
	wrong := api.OK
	for i := range rows {
		holds, why := where.Holds(rows[i : i+1 : i+1])
		wrong = beside.Lesser(wrong, why)
		if !holds {
			behind = append(behind, rows[i])
		}
	}
	return behind, len(rows) - len(behind), wrong
}
