package kept_test

import (
	"testing"

	"lockstep/api"
	"lockstep/kept"
)

// stuffed is rows of all types, each value with what its type does not name, some of them in one list; bare is the same without.
func stuffed() []api.Row {
	long := api.Row{{Type: api.BigInt, Int: -1, Text: "junk"}, {Type: api.Dec, Int: 5, Text: "junk"}, {Type: api.Text, Int: 7, Text: "x"}, {Type: api.Bool, Int: 1, Text: "junk"}, {Int: 7, Text: "junk"}}
	return []api.Row{long[:2], {}, long[2:4:5], nil, long}
}

func bare() []api.Row {
	long := api.Row{{Type: api.BigInt, Int: -1}, {Type: api.Dec, Int: 5}, {Type: api.Text, Text: "x"}, {Type: api.Bool, Int: 1}, {}}
	return []api.Row{long[:2], {}, long[2:4], {}, long}
}

// Of values goes what their types do not name; of one whose type is none all stays.
func TestValue(t *testing.T) {
	for i, v := range stuffed()[4] {
		if got := kept.Value(v); got != bare()[4][i] {
			t.Errorf("%+v: %+v", v, got)
		}
	}
	for _, v := range []api.Value{{Type: 5, Int: 7, Text: "x"}, {Type: -1, Text: "x"}, {Type: 99, Int: 7}} {
		if got := kept.Value(v); got != v {
			t.Errorf("%+v: %+v", v, got)
		}
	}
}

// Rows, and lists of rows, stay as they are, none of them too.
func TestRows(t *testing.T) {
	if got := kept.Rows(stuffed()); show(got) != show(bare()) {
		t.Errorf("%s, not %s", show(got), show(bare()))
	}
	in := api.Data{stuffed(), nil, {}, {{}}, stuffed()[:1]}
	want := api.Data{bare(), nil, {}, {{}}, bare()[:1]}
	if got := kept.Data(in); show(got) != show(want) {
		t.Errorf("%s, not %s", show(got), show(want))
	}
	for _, d := range []api.Data{nil, {}} {
		if got := kept.Data(d); len(got) != 0 || len(kept.Rows(nil)) != 0 {
			t.Errorf("%s of none", show(got))
		}
	}
}

// Rows that are kept have memory of their own, and no room behind them into which another one reaches.
func TestMemoryOfRows(t *testing.T) {
	in := stuffed()
	was := show(in)
	got := kept.Data(api.Data{in, in})
	all := []any{got[0], got[1], kept.Rows(in), kept.Rows(in[:1])}
	for _, x := range all {
		for _, r := range x.([]api.Row) {
			for i := range r[:cap(r)] {
				r[:cap(r)][i].Int++
			}
		}
	}
	if show(in) != was {
		t.Errorf("%s, not %s", show(in), was)
	}
	// Each value was written over just once.
	for _, x := range all {
		for k, r := range x.([]api.Row) {
			for i, v := range r {
				if v.Int != bare()[k][i].Int+1 {
					t.Errorf("row %d: %+v", k, r)
				}
			}
		}
	}
	// Nor can what comes behind a row, or a list, come into another one.
	rows := kept.Rows(in)
	for i := range rows {
		_ = append(rows[i], api.Value{Type: api.BigInt, Int: 99})
	}
	if show(rows) != show(bare()) {
		t.Errorf("%s, not %s", show(rows), show(bare()))
	}
}
