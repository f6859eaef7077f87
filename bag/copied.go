package bag

import "lockstep/api"

// copied is the same tables in memory of their own, without what values' types do not name.
func copied(d api.Data) api.Data {
	out := make(api.Data, 0, len(d))
	for _, rows := range d {
		out = append(out, copiedRows(rows))
	}
	return out
}

// copiedRows cuts all rows out of one block, each with no room behind it, so that none reaches into another one.
func copiedRows(rows []api.Row) []api.Row {
	size := 0
	for _, r := range rows {
		size += len(r)
	}
	out := make([]api.Row, 0, len(rows))
	block := make(api.Row, 0, size)
	for _, r := range rows {
		begin := len(block)
		for _, v := range r {
			block = append(block, onlyNamed(v))
		}
		out = append(out, block[begin:len(block):len(block)])
	}
	return out
}

// onlyNamed is a value without what its type does not name. (Of a type that is none, all that it holds plays a part.)
func onlyNamed(v api.Value) api.Value {
	switch v.Type {
	case api.Null:
		return api.Value{}
	case api.BigInt, api.Dec, api.Bool:
		return api.Value{Type: v.Type, Int: v.Int}
	case api.Text:
		return api.Value{Type: v.Type, Text: v.Text}
	}
	return v
}
