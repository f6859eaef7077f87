package catalog

import (
	"lockstep/api"
	"lockstep/value"
)

// Bind is arguments as a procedure's parameters.
func (c *Catalog) Bind(name string, args api.Row) (api.Row, api.Errno) {
	p, is := c.known().procs[name]
	if !is {
		return nil, api.ErrName
	}
	if len(args) != len(p.Params) {
		return nil, api.ErrArgs
	}
	row := make(api.Row, 0, len(args))
	for i, v := range args {
		bound, why := bind(p.Params[i], v)
		if why != api.OK {
			return nil, why
		}
		// Without a value nothing would say which partition is meant.
		if bound.Type == api.Null && p.Params[i].Name == p.Part {
			return nil, api.ErrArgs
		}
		row = append(row, bound)
	}
	return row, api.OK
}

// bind is a value as a parameter.
func bind(param api.Column, v api.Value) (api.Value, api.Errno) {
	if why := value.Check(v); why != api.OK {
		return api.Value{}, why
	}
	if !fits(v.Type, param.Type) {
		return api.Value{}, api.ErrType
	}
	bound, why := value.Cast(v, param.Type)
	if why != api.OK {
		return api.Value{}, why
	}
	if bound.Type == api.Text && len(bound.Text) > param.Most {
		return api.Value{}, api.ErrLong
	}
	return bound, api.OK
}
