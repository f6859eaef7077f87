package exec_test

import (
	"fmt"
	"testing"

	"lockstep/api"
	"lockstep/bag"
	"lockstep/catalog"
	"lockstep/exec"
	"lockstep/table"
)

// two is tables of all types, one of them partitioned.
const two = `CREATE TABLE t (a BIGINT, b BIGINT, s VARCHAR(3) NOT NULL, PRIMARY KEY (a), UNIQUE k (b, s), INDEX i (s)) LIMIT 5;
CREATE TABLE u (a BIGINT, d DECIMAL, f BOOLEAN, PRIMARY KEY (d, a)) PARTITION BY a;`

// P16.1: each error of bag.Check is Load's, with no tables.
func TestLoadErrors(t *testing.T) {
	c := made(t, two)
	fine := func() api.Data { return data("1, 2, 'x'; 2, NULL, 'y'", "1, 1.5, TRUE") }
	with := func(bend func(d api.Data)) api.Data {
		d := fine()
		bend(d)
		return d
	}
	tests := []struct {
		note string
		d    api.Data
		want api.Errno
	}{
		{"fine", fine(), api.OK},
		{"too few", fine()[:1], api.ErrArg},
		{"none", nil, api.ErrArg},
		{"too many", append(fine(), nil), api.ErrArg},
		{"turned about", api.Data{fine()[1], fine()[0]}, api.ErrArg},
		{"a short row", with(func(d api.Data) { d[0][1] = d[0][1][:2] }), api.ErrArg},
		{"a long row", with(func(d api.Data) { d[1][0] = append(d[1][0], null()) }), api.ErrArg},
		{"another type", with(func(d api.Data) { d[1][0][1] = num(1) }), api.ErrArg},
		{"no type", with(func(d api.Data) { d[0][0][0] = api.Value{Type: 7} }), api.ErrArg},
		{"no text", with(func(d api.Data) { d[0][0][2] = text("\xff") }), api.ErrArg},
		{"no bool", with(func(d api.Data) { d[1][0][2] = truth(2) }), api.ErrArg},
		{"a NULL", with(func(d api.Data) { d[0][1][2] = null() }), api.ErrNull},
		{"a NULL in the primary key", with(func(d api.Data) { d[1][0][0] = null() }), api.ErrNull},
		{"long", with(func(d api.Data) { d[0][0][2] = text("wxyz") }), api.ErrLong},
		{"twice", with(func(d api.Data) { d[0][1][0] = num(1) }), api.ErrTwice},
		{"twice by another key", with(func(d api.Data) { d[0][1][1], d[0][1][2] = num(2), text("x") }), api.ErrTwice},
		{"NULLs are not twice", with(func(d api.Data) { d[0][0][1], d[0][0][2] = null(), text("y") }), api.OK},
		{"full", with(func(d api.Data) { d[0] = rows("1, 1, ''; 2, 2, ''; 3, 3, ''; 4, 4, ''; 5, 5, ''; 6, 6, ''") }), api.ErrFull},
		{"as many as may be", with(func(d api.Data) { d[0] = rows("1, 1, ''; 2, 2, ''; 3, 3, ''; 4, 4, ''; 5, 5, ''") }), api.OK},
		{"a NULL behind what is twice", with(func(d api.Data) { d[0][1][0], d[1][0][0] = num(1), null() }), api.ErrNull},
	}
	for _, x := range tests {
		if is := bag.Check(c, x.d); is != x.want {
			t.Errorf("%s: bag.Check: %v", x.note, is)
		}
		d := withRoom(x.d)
		dd := withRoom(d)
		l, why := exec.Load(c, d)
		if why != x.want || (why == api.OK) != (len(l) == 2) || why != api.OK && len(l) != 0 {
			t.Errorf("%s: %d tables, %v, not %v", x.note, len(l), why, x.want)
		}
		if !untouched(d, dd) {
			t.Errorf("%s: what was handed in has changed", x.note)
		}
		if l, why := exec.Load(nil, x.d); len(l) != 0 || why != api.ErrArg {
			t.Errorf("%s: of no catalog %d tables, %v", x.note, len(l), why)
		}
	}
}

// P16.1: tables hold the rows as they stand there, under the numbers 1, 2, .., and nothing can be taken back.
func TestLoad(t *testing.T) {
	c := made(t, two)
	d := data("3, 2, 'x'; 1, NULL, ''; 2, NULL, ''", "")
	d[0][0][0].Text = "x" // what its type does not name
	l := loaded(t, c, withRoom(d))
	if want := "t[{1 [{1 3 } {1 2 } {3 0 x}]} {2 [{1 1 } {0 0 } {3 0 }]} {3 [{1 2 } {0 0 } {3 0 }]}] 4 0\nu[] 1 0\n"; stateOf(l) != want {
		t.Errorf("%q, not %q", stateOf(l), want)
	}
	byKeys(t, "Load", l)
	for _, x := range l {
		if why := x.Back(1); why != api.ErrState {
			t.Errorf("Back of a table that was loaded: %v", why)
		}
	}
	if got := exec.Data(l); show(got) != show(data("3, 2, 'x'; 1, NULL, ''; 2, NULL, ''", "")) {
		t.Errorf("Data: %s", show(got))
	}
	if exec.Check(c, l) != api.OK {
		t.Error("they are not the catalog's")
	}
	before := stateOf(l)
	smear(d)
	smear(exec.Data(l))
	if stateOf(l) != before {
		t.Error("tables share memory with what was handed in or told")
	}
	apart(t, "Data", exec.Data(l), exec.Data(l), d)
}

// P16.1: a table of many rows, and a catalog of no tables and of many.
func TestLoadMany(t *testing.T) {
	c := made(t, "CREATE TABLE t (a BIGINT, b BIGINT, PRIMARY KEY (a), INDEX i (b));")
	var l []api.Row
	for i := range api.MaxRows {
		l = append(l, api.Row{num(int64(i) * 7919 % 4099), num(int64(i) % 5)})
	}
	x := loaded(t, c, api.Data{l})
	if x[0].Len() != api.MaxRows || x[0].Next() != api.MaxRows+1 || x[0].Mark() != 0 {
		t.Errorf("%d rows, next %d, mark %d", x[0].Len(), x[0].Next(), x[0].Mark())
	}
	for i, k := range x[0].Rows() {
		if k.ID != uint64(i)+1 || show(k.Row) != show(l[i]) {
			t.Fatalf("%d: %v", i, k)
		}
	}
	if show(exec.Data(x)) != show(api.Data{l}) {
		t.Error("Data of what was loaded is something else")
	}
	none := made(t, "")
	if l, why := exec.Load(none, nil); len(l) != 0 || why != api.OK || exec.Check(none, nil) != api.OK || exec.Check(none, x) != api.ErrArg {
		t.Errorf("a catalog of no tables: %d %v", len(l), why)
	}
	s, d := "", api.Data{}
	for i := range api.MaxDecls {
		s += fmt.Sprintf("CREATE TABLE t%03d (a BIGINT, PRIMARY KEY (a));", i)
		d = append(d, rows(fmt.Sprint(i)))
	}
	c = made(t, s)
	x = loaded(t, c, d)
	if exec.Check(c, x) != api.OK || exec.Check(c, x[:255]) != api.ErrArg || x[77].Form().Name != "t077" || told(exec.Data(x)[77]) != "77" {
		t.Error("many tables stand elsewhere")
	}
}

// P16.1: Data is of each table its rows, by their numbers; of one that is nil none.
func TestData(t *testing.T) {
	c := made(t, two)
	l := loaded(t, c, data("3, 2, 'x'; 1, 7, ''; 2, 9, ''", "1, 1.5, TRUE"))
	l[0].Delete(2)
	l[0].Insert(rows("0, 0, 'z'")[0])
	l[0].Update(1, rows("9, 9, 'y'")[0])
	l[1].Delete(1)
	if got := told(exec.Data(l)[0]); got != "9, 9, 'y'; 2, 9, ''; 0, 0, 'z'" {
		t.Error(got)
	}
	for _, x := range []struct {
		l    []*table.Table
		want []int
	}{{nil, nil}, {l, []int{3, 0}}, {[]*table.Table{nil, l[0], nil, l[0], l[1]}, []int{0, 3, 0, 3, 0}}, {[]*table.Table{nil}, []int{0}}} {
		d := exec.Data(x.l)
		if len(d) != len(x.want) {
			t.Errorf("%d lists, not %d", len(d), len(x.want))
			continue
		}
		for i, n := range x.want {
			if len(d[i]) != n {
				t.Errorf("%d: %d rows, not %d", i, len(d[i]), n)
			}
		}
		apart(t, "Data", d)
	}
}

// P16.1: tables are a catalog's, if there are as many, none is nil, and each has the form of its place: all that a form says plays a part.
func TestCheck(t *testing.T) {
	c := made(t, two)
	l := loaded(t, c, data("", ""))
	of := func(i int, bend func(form *api.Table)) *table.Table {
		form := c.Tables()[i]
		if bend != nil {
			bend(&form)
		}
		x, why := table.New(form)
		if why != api.OK {
			t.Fatal(why)
		}
		return x
	}
	tests := []struct {
		note string
		c    *catalog.Catalog
		l    []*table.Table
		want api.Errno
	}{
		{"loaded", c, l, api.OK},
		{"made anew", c, []*table.Table{of(0, nil), of(1, nil)}, api.OK},
		{"clones", c, clones(l), api.OK},
		{"of another catalog of the same", made(t, two), l, api.OK},
		{"no Part, otherwise written", c, []*table.Table{of(0, func(f *api.Table) { f.Part = -7 }), l[1]}, api.OK},
		{"no catalog", nil, l, api.ErrArg},
		{"no catalog, no tables", nil, nil, api.ErrArg},
		{"none", c, nil, api.ErrArg},
		{"too few", c, l[:1], api.ErrArg},
		{"too many", c, append(clones(l), l[1]), api.ErrArg},
		{"one nil more", c, append(clones(l), nil), api.ErrArg},
		{"the first nil", c, []*table.Table{nil, l[1]}, api.ErrArg},
		{"the last nil", c, []*table.Table{l[0], nil}, api.ErrArg},
		{"turned about", c, []*table.Table{l[1], l[0]}, api.ErrArg},
		{"one twice", c, []*table.Table{l[0], l[0]}, api.ErrArg},
		{"a zero table", c, []*table.Table{l[0], new(table.Table)}, api.ErrArg},
	}
	for _, x := range tests {
		if why := exec.Check(x.c, x.l); why != x.want {
			t.Errorf("%s: %v, not %v", x.note, why, x.want)
		}
	}
	for no, x := range []struct {
		place int
		bend  func(f *api.Table)
	}{
		{0, func(f *api.Table) { f.Name = "v" }},
		{0, func(f *api.Table) { f.Most-- }},
		{1, func(f *api.Table) { f.Part = 1 }},
		{1, func(f *api.Table) { f.Part = -1 }},
		{0, func(f *api.Table) { f.Part = 0 }},
		{0, func(f *api.Table) { f.Cols[0].Name = "z" }},
		{0, func(f *api.Table) { f.Cols[1].Type = api.Dec }},
		{0, func(f *api.Table) { f.Cols[1].NotNull = true }},
		{0, func(f *api.Table) { f.Cols[2].NotNull = false }},
		{0, func(f *api.Table) { f.Cols[2].Most++ }},
		{0, func(f *api.Table) { f.Cols = append(f.Cols, api.Column{Name: "z", Type: api.BigInt}) }},
		{1, func(f *api.Table) { f.Cols = f.Cols[:2] }},
		{0, func(f *api.Table) { f.Keys[0].Name = "z" }},
		{0, func(f *api.Table) { f.Keys[1].Unique = false }},
		{0, func(f *api.Table) { f.Keys[2].Unique = true }},
		{0, func(f *api.Table) { f.Keys[1].Cols = []int{2, 1} }},
		{0, func(f *api.Table) { f.Keys[1].Cols = []int{1} }},
		{0, func(f *api.Table) { f.Keys[1].Cols = []int{1, 2, 0} }},
		{0, func(f *api.Table) { f.Keys[1], f.Keys[2] = f.Keys[2], f.Keys[1] }},
		{0, func(f *api.Table) { f.Keys = f.Keys[:2] }},
		{1, func(f *api.Table) { f.Keys = append(f.Keys, api.Key{Name: "z", Cols: []int{0}}) }},
	} {
		bent := clones(l)
		bent[x.place] = of(x.place, x.bend)
		if why := exec.Check(c, bent); why != api.ErrArg {
			t.Errorf("%d: %v: %s", no, why, show(bent[x.place].Form()))
		}
	}
}
