package bag

import (
	"lockstep/api"
	"lockstep/beside"
)

// selection is what a SELECT answers.
func (s *scene) selection(x *api.Stmt, answered []api.Col) ([]api.Row, api.Errno) {
	limit, why := s.Limit(x.Limit)
	if why != api.OK {
		return nil, why
	}
	j := s.join(x)
	if j.isMany() {
		return nil, api.ErrLong
	}
	held, why := j.held()
	if why != api.OK {
		return nil, why
	}
	items := s.Items(x.Items, j.Sees)
	groups, wrong := s.groups(x, j.Sees, items, held)
	answers := s.Answers(x, answered)
	for _, g := range groups {
		row, why := answerOf(items, g)
		wrong = beside.Lesser(wrong, why)
		if wrong == api.OK {
			answers.Add(row)
		}
	}
	if wrong != api.OK {
		return nil, wrong
	}
	return answers.First(limit)
}
