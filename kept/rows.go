package kept

import "lockstep/api"

// Data is tables' rows.
func Data(d api.Data) api.Data {
	out := make(api.Data, 0, len(d))
	for _, rows := range d {
		out = append(out, Rows(rows))
	}
	return out
}

// Rows cuts all rows out of one block, each with no room behind it, so that none reaches into another one.
func Rows(rows []api.Row) []api.Row {
	size := 0
	for _, r := range rows {
		size += len(r)
	}
	out := make([]api.Row, 0, len(rows))
	block := make(api.Row, 0, size)
	for _, r := range rows {
		begin := len(block)
		for _, v := range r {
			block = append(block, Value(v))
		}
		out = append(out, block[begin:len(block):len(block)])
	}
	return out
}

// Value is a value without what its type does not name. (Of a type that is none, all that it holds plays a part.)
func Value(v api.Value) api.Value {
	switch v.Type {
	case api.Null:
		return api.Value{}
	case api.BigInt, api.Dec, api.Bool:
		return api.Value{Type: v.Type, Int: v.Int}
	case api.Text:
		return api.Value{Type: v.Type, Text: v.Text}
	}
	return v
}
