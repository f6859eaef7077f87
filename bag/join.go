package bag

import (
	"lockstep/api"
	"lockstep/beside"
)

// join is tables whose rows are put side by side in every way, and the conditions that these must meet.
type join struct {
	beside.Join
	lists [][]api.Row
}

func (s *scene) join(x *api.Stmt) join {
	var j join
	var places []int
	for i, f := range x.From {
		j.lists = append(j.lists, s.data[s.Place(f.Table)])
		places = append(places, i)
	}
	j.Join = s.Join(x, places)
	return j
}

// isMany tells whether there are more ways than may be tried.
func (j *join) isMany() bool {
	var rows []int
	for _, l := range j.lists {
		rows = append(rows, len(l))
	}
	return beside.AreMany(rows)
}

// tell tells all ways to put rows behind those that stand side by side already, but for those in which the condition does not hold; and, if it errs, with which error. None is told in memory of another one.
func (j *join) tell(rows beside.Rows, why api.Errno, told func(rows beside.Rows, why api.Errno)) {
	n := len(rows)
	holds, also := j.Conds[n].Holds(rows)
	if !holds && also == api.OK {
		return
	}
	why = beside.Lesser(why, also)
	if n == len(j.lists) {
		told(rows, why)
		return
	}
	for _, r := range j.lists[n] {
		j.tell(append(rows[:n:n], r), why, told)
	}
}

// held is the rows side by side for which the condition holds, or the least error of those for which it errs.
func (j *join) held() ([]beside.Rows, api.Errno) {
	var held []beside.Rows
	least := api.OK
	j.tell(nil, api.OK, func(rows beside.Rows, why api.Errno) {
		least = beside.Lesser(least, why)
		if least == api.OK {
			held = append(held, rows)
		}
	})
	if least != api.OK {
		return nil, least
	}
	return held, api.OK
}
