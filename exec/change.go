package exec

import (
	"cmp"

	"lockstep/api"
	"lockstep/beside"
)

// change does a statement that is no SELECT: how many rows it was about. With an error the table is as it was.
func (s *scene) change(p *api.Plan) (int, api.Errno) {
	place := s.Place(p.Stmt.Table)
	t := target{s.tables[place], &s.Forms[place]}
	switch p.Stmt.Kind {
	case api.Insert:
		return s.insertion(p, t)
	case api.Update:
		return s.update(p, t)
	}
	return s.deletion(p, t)
}

func (s *scene) insertion(p *api.Plan, t target) (int, api.Errno) {
	r, why := s.Inserted(&p.Stmt, t.form)
	if why == api.OK {
		why = t.admits(r)
	}
	if why == api.OK {
		why = t.insert(r)
	}
	return 1, why
}

// update looks for all rows ahead of changing the first one, as it may change what they are come to by. An error of the condition comes ahead of all those of values.
func (s *scene) update(p *api.Plan, t target) (int, api.Errno) {
	w := s.way(p)
	sets := s.Sets(&p.Stmt, t.form, w.Sees)
	var ids []uint64
	var now []api.Row
	wrong, wrongValue := api.OK, api.OK
	w.tell(func(id uint64, rows beside.Rows, why api.Errno) {
		wrong = beside.Lesser(wrong, why)
		if why != api.OK {
			return
		}
		r, why := beside.Become(rows[0], sets, rows)
		wrongValue = beside.Lesser(wrongValue, why)
		ids, now = append(ids, id), append(now, r)
	})
	why := cmp.Or(wrong, wrongValue)
	if why == api.OK {
		why = t.admits(now...)
	}
	if why == api.OK {
		why = t.replace(ids, now)
	}
	return len(now), why
}

func (s *scene) deletion(p *api.Plan, t target) (int, api.Errno) {
	var ids []uint64
	wrong := api.OK
	s.way(p).tell(func(id uint64, _ beside.Rows, why api.Errno) {
		wrong = beside.Lesser(wrong, why)
		ids = append(ids, id)
	})
	if wrong == api.OK {
		t.drop(ids)
	}
	return len(ids), wrong
}
