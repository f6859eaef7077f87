package bag_test

import (
	"math/rand"
	"strings"
	"testing"

	"lockstep/api"
	"lockstep/bag"
	"lockstep/catalog"
)

// three is three tables in the order of their names, not of their declarations.
const three = `CREATE TABLE v (a BIGINT, s VARCHAR(2), PRIMARY KEY (a), UNIQUE k (s)) LIMIT 3;
CREATE TABLE t (a BIGINT, b BIGINT, PRIMARY KEY (a)) LIMIT 3;
CREATE TABLE u (a BIGINT, d DECIMAL, s VARCHAR(4096), f BOOLEAN NOT NULL, PRIMARY KEY (a, d), UNIQUE k (s, f), INDEX i (f)) LIMIT 4;`

func checks(t *testing.T, c *catalog.Catalog, d api.Data, want api.Errno) {
	t.Helper()
	d = withRoom(d)
	before := withRoom(d)
	if why := bag.Check(c, d); why != want {
		t.Errorf("Check of %v: %v, not %v", d, why, want)
	}
	if !untouched(d, before) {
		t.Error("what was handed in has changed:", d)
	}
	x := api.Stmt{Kind: api.Delete, Table: "v"}
	if why := run(t, c, d, x, nil, nil).why; why != want {
		t.Errorf("Run over %v: %v, not %v", d, why, want)
	}
}

// P13.1: tables that can be.
func TestCheckOK(t *testing.T) {
	c := made(t, three)
	long := text(strings.Repeat("x", api.MaxText))
	for _, d := range []api.Data{
		{nil, nil, nil}, {{}, {}, {}},
		data("1, NULL; 2, 5", "", "1, 'ab'; 2, 'é'"),
		data("-9223372036854775808, 0; 0, 0; 9223372036854775807, 0", "1, 1.0, '', TRUE; 1, 1.1, '', FALSE; 2, 1.0, NULL, TRUE; 2, 2.0, NULL, TRUE", "1, NULL; 2, NULL; 3, 'x'"),
		{nil, {{num(1), dec(1), long, truth(0)}}, nil},
		// What a type does not name plays no part.
		{{{{Type: api.BigInt, Int: 1, Text: "\xff"}, {Type: api.Null, Int: 7, Text: "x"}}}, nil, {{num(1), {Type: api.Text, Text: "x", Int: 9}}, {num(2), {Type: api.Null, Text: "x"}}, {num(3), {Type: api.Null, Text: "x"}}}},
	} {
		checks(t, c, d, api.OK)
	}
	checks(t, c, nil, api.ErrArg)
	none := made(t, "")
	if bag.Check(none, nil) != api.OK || bag.Check(none, api.Data{}) != api.OK || bag.Check(none, api.Data{{}}) != api.ErrArg {
		t.Error("without tables")
	}
}

// P13.1: a nil catalog, other numbers of lists, rows and values that can't be, values of other types.
func TestCheckArg(t *testing.T) {
	c := made(t, three)
	if bag.Check(nil, nil) != api.ErrArg || bag.Check(nil, api.Data{nil, nil, nil}) != api.ErrArg {
		t.Error("a nil catalog")
	}
	for _, d := range []api.Data{
		nil, {}, {nil}, {nil, nil}, {nil, nil, nil, nil},
		{nil, nil, {{}}}, {{nil}, nil, nil},
		data("1", "", ""), data("1, 2, 3", "", ""), data("1, 2; 3", "", ""), data("", "1, 1.0, 'x'", ""), data("", "", "1, 'x', NULL"),
		{nil, nil, {{num(1), {Type: 5}}}}, {nil, nil, {{num(1), {Type: -1}}}}, {nil, {{num(1), dec(1), null(), truth(2)}}, nil}, {nil, {{num(1), dec(1), null(), truth(-1)}}, nil},
		{nil, nil, {{num(1), text("\xff")}}}, {nil, {{num(1), dec(1), text("\xc3"), truth(1)}}, nil},
		{nil, {{num(1), dec(1), text(strings.Repeat("x", api.MaxText+1)), truth(1)}}, nil}, {nil, nil, {{num(1), text(strings.Repeat("x", api.MaxText+1))}}},
	} {
		checks(t, c, d, api.ErrArg)
	}
	// Each type in each column: its own, or refused.
	d := data("1, 2", "1, 1.0, 'x', TRUE", "1, 'x'")
	for place := range d {
		for i, own := range d[place][0] {
			for _, v := range []api.Value{num(0), dec(0), text(""), truth(0)} {
				other := withRoom(d)
				other[place][0][i] = v
				want := api.ErrArg
				if v.Type == own.Type {
					want = api.OK
				}
				checks(t, c, other, want)
			}
		}
	}
}

// P13.1: NULLs, texts, keys and numbers of rows, at the edges.
func TestCheckRows(t *testing.T) {
	c := made(t, three)
	for _, x := range []struct {
		d    api.Data
		want api.Errno
	}{
		{data("NULL, 1", "", ""), api.ErrNull},
		{api.Data{{{{Type: api.Null, Int: 1}, num(1)}}, nil, nil}, api.ErrNull},
		{data("", "NULL, 1.0, NULL, TRUE", ""), api.ErrNull},
		{data("", "1, NULL, NULL, TRUE", ""), api.ErrNull},
		{data("", "1, 1.0, NULL, NULL", ""), api.ErrNull},
		{data("", "", "1, 'x'; NULL, 'y'"), api.ErrNull},
		{data("", "", "1, 'xyz'"), api.ErrLong},
		{data("", "", "1, 'éé'"), api.ErrLong},
		{data("", "", "1, 'xy'; 2, 'x'; 3, ''"), api.OK},
		{data("1, 1; 1, 2", "", ""), api.ErrTwice},
		{data("1, 1; 2, 1; 1, 1", "", ""), api.ErrTwice},
		{data("", "1, 1.0, NULL, TRUE; 1, 1.0, 'x', FALSE", ""), api.ErrTwice},
		{data("", "1, 1.0, NULL, TRUE; 1, 1.0001, NULL, TRUE; 2, 1.0, NULL, TRUE", ""), api.OK},
		{data("", "1, 1.0, 'x', TRUE; 2, 1.0, 'x', TRUE", ""), api.ErrTwice},
		{data("", "1, 1.0, 'x', TRUE; 2, 1.0, 'x', FALSE; 3, 1.0, 'X', TRUE; 4, 1.0, 'x ', TRUE", ""), api.OK},
		{data("", "", "1, 'x'; 2, 'y'; 3, 'x'"), api.ErrTwice},
		{data("", "", "1, NULL; 2, NULL; 3, NULL"), api.OK},
		{api.Data{nil, nil, {{num(1), text("x")}, {num(2), {Type: api.Text, Text: "x", Int: 3}}}}, api.ErrTwice},
		{data("1, 1; 2, 1; 3, 1", "", ""), api.OK},
		{data("1, 1; 2, 1; 3, 1; 4, 1", "", ""), api.ErrFull},
		{data("", "1, 1.0, NULL, TRUE; 2, 1.0, NULL, TRUE; 3, 1.0, NULL, TRUE; 4, 1.0, NULL, TRUE", ""), api.OK},
		{data("", "1, 1.0, NULL, TRUE; 2, 1.0, NULL, TRUE; 3, 1.0, NULL, TRUE; 4, 1.0, NULL, TRUE; 5, 1.0, NULL, TRUE", ""), api.ErrFull},
	} {
		checks(t, c, x.d, x.want)
	}
}

// P13.1: a table without a LIMIT holds 4096 rows.
func TestCheckMost(t *testing.T) {
	c := made(t, "CREATE TABLE t (a BIGINT, PRIMARY KEY (a));")
	var l []api.Row
	for i := range api.MaxRows {
		l = append(l, api.Row{num(int64(i))})
	}
	if why := bag.Check(c, api.Data{l}); why != api.OK {
		t.Error(why)
	}
	l = append(l, api.Row{num(-1)})
	if why := bag.Check(c, api.Data{l}); why != api.ErrFull {
		t.Error(why)
	}
	l[len(l)-1] = api.Row{num(4000)}
	if why := bag.Check(c, api.Data{l}); why != api.ErrTwice {
		t.Error(why)
	}
}

// flaws is what may be wrong with a table of three, in the order of the errors: rows that are put in. (Of several at once the table may become too full besides, which comes last.)
func flaws(place int) [][]api.Row {
	switch place {
	case 0: // t has no text
		return [][]api.Row{rows("1"), rows("NULL, 1"), nil, rows("7, 1; 7, 2"), rows("1, 1; 2, 2; 3, 3; 4, 4")}
	case 1:
		return [][]api.Row{rows("1, 1, 'x', TRUE"), rows("1, 1.0, 'x', NULL"), nil, rows("7, 1.0, 'y', TRUE; 8, 1.0, 'y', TRUE"), rows("1, 1.0, NULL, TRUE; 2, 1.0, NULL, TRUE; 3, 1.0, NULL, TRUE; 4, 1.0, NULL, TRUE; 5, 1.0, NULL, TRUE")}
	}
	return [][]api.Row{rows("TRUE, 'x'"), rows("NULL, 'z'"), rows("5, 'xyz'"), rows("7, 'y'; 8, 'y'"), rows("1, NULL; 2, NULL; 3, NULL; 4, NULL")}
}

// P13.1: several of these at once, in one table and in different ones: the first one in the order ErrArg, ErrNull, ErrLong, ErrTwice, ErrFull, whichever table it is in.
func TestCheckOrder(t *testing.T) {
	c := made(t, three)
	order := []api.Errno{api.ErrArg, api.ErrNull, api.ErrLong, api.ErrTwice, api.ErrFull}
	r := rand.New(rand.NewSource(131))
	for which := range 1 << 15 {
		d := api.Data{nil, nil, nil}
		least := len(order)
		for place := range d {
			for i, l := range flaws(place) {
				if which>>(5*place+i)&1 == 1 && l != nil {
					d[place] = append(d[place], l...)
					least = min(least, i)
				}
			}
			r.Shuffle(len(d[place]), func(i, k int) { d[place][i], d[place][k] = d[place][k], d[place][i] })
		}
		want := append(order, api.OK)[least]
		if why := bag.Check(c, d); why != want {
			t.Fatalf("Check of %v: %v, not %v", d, why, want)
		}
	}
}
