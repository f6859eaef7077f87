package detcheck

import (
	"slices"

	"lockstep/api"
	"lockstep/catalog"
)

// flaw is the first step of a procedure with which something is wrong, and what. (Its statements were checked when it was declared.)
func flaw(c *catalog.Catalog, p *api.Proc) (int, api.Errno) {
	part := slices.IndexFunc(p.Params, func(param api.Column) bool { return param.Name == p.Part })
	for i, step := range p.Steps {
		if step.Kind == api.Abort {
			continue
		}
		s := sceneOf(c, &step.Stmt)
		if !s.isSettled() {
			return i, api.ErrOrder
		}
		if part >= 0 && !s.stays(c, api.Col{Name: p.Part, Type: p.Params[part].Type}) {
			return i, api.ErrRoute
		}
	}
	return 0, api.OK
}
