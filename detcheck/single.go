package detcheck

import (
	"slices"

	"lockstep/api"
	"lockstep/catalog"
)

// stays tells whether a statement stays in the partition of a parameter. A table that stands whole in every partition may be read in one alone, but not changed.
func (s *scene) stays(c *catalog.Catalog, by api.Col) bool {
	if s.stmt.Kind == api.Insert {
		form, _ := c.Table(s.stmt.Table)
		return form.Part >= 0 && gives(s.stmt, form.Cols[form.Part], by)
	}
	same := s.sameAs(by)
	for i, f := range s.froms {
		part := f.Form.Part
		if part < 0 && s.stmt.Kind != api.Select || part >= 0 && !same[s.first[i]+part] {
			return false
		}
	}
	return true
}

// gives tells whether an INSERT gives a column just the value of a parameter. (As another type it would belong to another partition.)
func gives(x *api.Stmt, to api.Column, by api.Col) bool {
	i := slices.Index(x.Cols, to.Name)
	return i >= 0 && isParam(&x.Values[i], by.Name) && to.Type == by.Type
}
