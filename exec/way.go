package exec

import (
	"lockstep/api"
	"lockstep/beside"
)

// way is tables whose rows are come to one behind the other, as a plan says, and the conditions that these must meet side by side.
type way struct {
	beside.Join
	steps []step
}

// way is a plan's. An UPDATE, a DELETE goes through its table as a SELECT of that alone would.
func (s *scene) way(p *api.Plan) *way {
	x := &p.Stmt
	if x.Kind != api.Select {
		x = &api.Stmt{From: []api.From{{Table: x.Table, As: x.Table}}, Where: x.Where}
	}
	places := make([]int, len(x.From))
	for i, a := range p.Access {
		places[a.From] = i
	}
	w := &way{Join: s.Join(x, places)}
	for i := range p.Access {
		a := &p.Access[i]
		w.steps = append(w.steps, s.step(s.Place(x.From[a.From].Table), a, w.Sees))
	}
	return w
}

// telling is told rows side by side, the number of the last one of these, and with which error the condition errs beside them, if it does. They stand there just until the next ones are told.
type telling func(id uint64, rows beside.Rows, why api.Errno)

// tell tells all rows side by side that the plan comes to, in its order, but for those for which the condition does not hold.
func (w *way) tell(told telling) {
	w.further(make(beside.Rows, 0, len(w.steps)), 0, api.OK, told)
}

// further tells all ways to put rows behind those that stand side by side already.
func (w *way) further(rows beside.Rows, id uint64, why api.Errno, told telling) {
	n := len(rows)
	holds, also := w.Conds[n].Holds(rows)
	if !holds && also == api.OK {
		return
	}
	why = beside.Lesser(why, also)
	if n == len(w.steps) {
		told(id, rows, why)
		return
	}
	for _, k := range w.steps[n].come(rows) {
		w.further(append(rows, k.Row), k.ID, why, told)
	}
}

// isMany tells whether there are more ways than may be tried, whether or not the plan comes to them.
func (w *way) isMany() bool {
	var rows []int
	for _, t := range w.steps {
		rows = append(rows, t.table.Len())
	}
	return beside.AreMany(rows)
}
