package proc

import (
	"slices"

	"lockstep/api"
	"lockstep/catalog"
	"lockstep/expr"
	"lockstep/kept"
)

// run is a procedure that is run: beside what, and what it has answered.
type run struct {
	catalog *catalog.Catalog
	base    api.Base
	params  []api.Col // the parameters and, behind them, the Lets that are done
	args    api.Row
	answers [][]api.Row
}

func newRun(c *catalog.Catalog, b api.Base, p *api.Proc, args api.Row) *run {
	r := &run{catalog: c, base: b, args: args}
	for _, param := range p.Params {
		r.params = append(r.params, api.Col{Name: param.Name, Type: param.Type})
	}
	return r
}

// outcome is what steps come to, one behind the other.
func (r *run) outcome(steps []api.Step) api.Outcome {
	for i := range steps {
		switch why := r.step(&steps[i]); why {
		case api.OK:
		case api.ErrAbort:
			return api.Outcome{Err: why, Step: i, Text: steps[i].Text}
		default:
			return api.Outcome{Err: why, Step: i}
		}
	}
	return api.Outcome{Answers: r.answers}
}

func (r *run) step(s *api.Step) api.Errno {
	switch s.Kind {
	case api.Let:
		return r.let(s)
	case api.Abort:
		return r.abort(s)
	}
	rows, why := r.ask(&s.Stmt)
	if why == api.OK {
		r.answers = append(r.answers, rows)
	}
	return why
}

// let is a parameter for the steps behind it.
func (r *run) let(s *api.Step) api.Errno {
	// Nothing is wrong with it: it was checked when it was declared.
	cols, _ := r.catalog.Answer(s.Stmt, r.params)
	rows, why := r.ask(&s.Stmt)
	if why != api.OK {
		return why
	}
	if len(rows) != 1 || len(rows[0]) != 1 {
		return api.ErrOne
	}
	r.params = append(r.params, api.Col{Name: s.Name, Type: cols[0].Type})
	r.args = append(r.args, rows[0][0])
	return api.OK
}

func (r *run) abort(s *api.Step) api.Errno {
	holds, why := expr.Holds(s.Cond, api.Scope{Params: r.params}, nil, r.args)
	if holds {
		return api.ErrAbort
	}
	return why
}

// ask is what the base answers to a statement. Lists go to it, and come from it, as copies: what a base keeps of the one, or does with the other, is nothing to the steps behind.
func (r *run) ask(x *api.Stmt) ([]api.Row, api.Errno) {
	rows, why := r.base.Run(*x, slices.Clone(r.params), slices.Clone(r.args))
	if why != api.OK {
		return nil, why
	}
	return kept.Rows(rows), api.OK
}
