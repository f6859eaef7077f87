package bag

import "lockstep/api"

// join is tables whose rows are put side by side in every way, and the conditions that these must meet.
type join struct {
	lists [][]api.Row
	conds []condition // by how many of the tables they need
	sees  sight
}

func (s *scene) join(x *api.Stmt) join {
	j := join{conds: make([]condition, len(x.From)+1)}
	for i, f := range x.From {
		place := s.place(f.Table)
		j.lists = append(j.lists, s.data[place])
		j.sees.widen(f.As, &s.forms[place], i)
		if i > 0 { // that of the first one plays no part
			// A name may be one alone here, and not any more beside the tables behind.
			j.need(s.condition(f.On, j.sees))
		}
	}
	j.need(s.condition(x.Where, j.sees))
	return j
}

// need takes a condition in, each of its Parts where it can first be asked.
func (j *join) need(c condition) {
	for _, t := range c {
		n := t.needs()
		j.conds[n] = append(j.conds[n], t)
	}
}

// isMany tells whether there are more ways than may be tried. (A product of so few tables does not wrap round.)
func (j *join) isMany() bool {
	ways := int64(1)
	for _, rows := range j.lists {
		ways *= int64(len(rows))
	}
	return ways > api.MaxTried
}

// tell tells all ways to put rows behind those that stand side by side already, but for those in which the condition does not hold; and, if it errs, with which error. None is told in memory of another one.
func (j *join) tell(rows side, why api.Errno, told func(rows side, why api.Errno)) {
	n := len(rows)
	holds, also := j.conds[n].holds(rows)
	if !holds && also == api.OK {
		return
	}
	why = lesser(why, also)
	if n == len(j.lists) {
		told(rows, why)
		return
	}
	for _, r := range j.lists[n] {
		j.tell(append(rows[:n:n], r), why, told)
	}
}

// held is the rows side by side for which the condition holds, or the least error of those for which it errs.
func (j *join) held() ([]side, api.Errno) {
	var held []side
	least := api.OK
	j.tell(nil, api.OK, func(rows side, why api.Errno) {
		least = lesser(least, why)
		if least == api.OK {
			held = append(held, rows)
		}
	})
	if least != api.OK {
		return nil, least
	}
	return held, api.OK
}
