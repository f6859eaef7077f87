package catalog_test

import (
	"fmt"
	"slices"
	"strings"
	"testing"

	"lockstep/api"
	"lockstep/catalog"
)

// column is one of a type that has no Most.
func column(name string, typ int, notNull bool) api.Column {
	return api.Column{Name: name, Type: typ, NotNull: notNull}
}

func primary(cols ...int) api.Key { return api.Key{Name: "primary", Cols: cols, Unique: true} }

// P11.1: the table has its columns, its keys by the columns' numbers, Part and Most.
func TestTablesAreMade(t *testing.T) {
	big, words := api.BigInt, api.Column{Name: "b", Type: api.Text, Most: 3}
	words2 := words
	words2.NotNull = true
	for s, want := range map[string]api.Table{
		"CREATE TABLE t (a BIGINT, b VARCHAR(3), PRIMARY KEY (a)) PARTITION BY a;": {
			Name: "t", Cols: []api.Column{column("a", big, true), words}, Keys: []api.Key{primary(0)}, Part: 0, Most: 4096},
		"CREATE TABLE t (a BIGINT, b VARCHAR(3), PRIMARY KEY (a));": {
			Name: "t", Cols: []api.Column{column("a", big, true), words}, Keys: []api.Key{primary(0)}, Part: -1, Most: 4096},
		"CREATE TABLE t (a BIGINT, b VARCHAR(3), PRIMARY KEY (b)) PARTITION BY b LIMIT 1;": {
			Name: "t", Cols: []api.Column{column("a", big, false), words2}, Keys: []api.Key{primary(1)}, Part: 1, Most: 1},
		"CREATE TABLE t (a BIGINT NOT NULL, b VARCHAR(3) NOT NULL, PRIMARY KEY (a)) LIMIT 4096;": {
			Name: "t", Cols: []api.Column{column("a", big, true), words2}, Keys: []api.Key{primary(0)}, Part: -1, Most: 4096},
		"CREATE TABLE t (INDEX i (c, b), PRIMARY KEY (b, a), UNIQUE u (a, c), a BIGINT, b VARCHAR(3), c BOOLEAN) PARTITION BY a LIMIT 7;": {
			Name: "t", Cols: []api.Column{column("a", big, true), words2, column("c", api.Bool, false)},
			Keys: []api.Key{primary(1, 0), {Name: "i", Cols: []int{2, 1}}, {Name: "u", Cols: []int{0, 2}, Unique: true}}, Part: 0, Most: 7},
		"CREATE TABLE t (a DECIMAL, b VARCHAR(3) NOT NULL, c BOOLEAN, PRIMARY KEY (c, a), UNIQUE \"Primary\" (b), INDEX t (b)) LIMIT 4095;": {
			Name: "t", Cols: []api.Column{column("a", api.Dec, true), words2, column("c", api.Bool, true)},
			Keys: []api.Key{primary(2, 0), {Name: "Primary", Cols: []int{1}, Unique: true}, {Name: "t", Cols: []int{1}}}, Part: -1, Most: 4095},
		// Names are the same only byte for byte; a key may have a column's, a table's name; two keys the same columns.
		"CREATE TABLE \"select\" (a BIGINT, \"A\" BIGINT, PRIMARY KEY (\"A\"), INDEX a (a), INDEX \"A\" (a), INDEX \"select\" (\"A\")) PARTITION BY \"A\";": {
			Name: "select", Cols: []api.Column{column("a", big, false), column("A", big, true)},
			Keys: []api.Key{primary(1), {Name: "a", Cols: []int{0}}, {Name: "A", Cols: []int{0}}, {Name: "select", Cols: []int{1}}}, Part: 1, Most: 4096},
		"CREATE TABLE t (a BIGINT, b BIGINT, c BIGINT, d BIGINT, PRIMARY KEY (d, c, b, a), UNIQUE u (b, d), UNIQUE v (d), INDEX i (a)) PARTITION BY d;": {
			Name: "t", Cols: []api.Column{column("a", big, true), column("b", big, true), column("c", big, true), column("d", big, true)},
			Keys: []api.Key{primary(3, 2, 1, 0), {Name: "u", Cols: []int{1, 3}, Unique: true}, {Name: "v", Cols: []int{3}, Unique: true}, {Name: "i", Cols: []int{0}}}, Part: 3, Most: 4096},
	} {
		c := made(t, s)
		if got, why := c.Table(want.Name); !alike(got, want) || why != api.OK {
			t.Errorf("%s: %v %v, not %v", s, got, why, want)
		}
		if l := c.Tables(); !alike(l, []api.Table{want}) || len(c.Procs()) != 0 {
			t.Errorf("%s: %v", s, l)
		}
	}
}

// P11.1: as many columns and keys as there may be.
func TestGreatestTable(t *testing.T) {
	var elems []string
	for i := range 16 {
		elems = append(elems, fmt.Sprintf("c%d BIGINT", i))
	}
	for i := range 15 {
		elems = append(elems, fmt.Sprintf("UNIQUE k%d (c%d, c15)", i, i))
	}
	c := made(t, "CREATE TABLE t (PRIMARY KEY (c12, c13, c14, c15), "+strings.Join(elems, ", ")+") PARTITION BY c15;")
	got, _ := c.Table("t")
	if len(got.Cols) != 16 || len(got.Keys) != 16 || got.Part != 15 {
		t.Fatal(got)
	}
	for i, c := range got.Cols {
		if c.NotNull != (i >= 12) {
			t.Error(i, c)
		}
	}
	for i, k := range got.Keys[1:] {
		if !slices.Equal(k.Cols, []int{i, 15}) || !k.Unique {
			t.Error(i, k)
		}
	}
}

// P11.1: each error of a table alone, at its declaration.
func TestWrongTables(t *testing.T) {
	const ahead = "CREATE TABLE t (a BIGINT, PRIMARY KEY (a)); "
	for s, why := range map[string]api.Errno{
		"^CREATE TABLE t (b BIGINT, PRIMARY KEY (b));":                                                            api.ErrTable,
		"^CREATE TABLE \"t\" (a BIGINT, PRIMARY KEY (a));":                                                        api.ErrTable,
		"^CREATE TABLE T (a BIGINT, PRIMARY KEY (a));":                                                            api.ErrTable,
		"CREATE TABLE u (a BIGINT, PRIMARY KEY (a)); ^CREATE TABLE t (a BIGINT, PRIMARY KEY (a));":                api.ErrTable,
		"CREATE TABLE u (a BIGINT, PRIMARY KEY (a)); ^CREATE TABLE u (a BIGINT, PRIMARY KEY (a));":                api.ErrTable,
		"^CREATE TABLE u (a BIGINT, a BIGINT, PRIMARY KEY (a));":                                                  api.ErrTable,
		"^CREATE TABLE u (a BIGINT, b BOOLEAN, c BIGINT, b VARCHAR(1), PRIMARY KEY (a));":                         api.ErrTable,
		"^CREATE TABLE u (a BIGINT, PRIMARY KEY (a), INDEX i (a), INDEX i (a));":                                  api.ErrTable,
		"^CREATE TABLE u (a BIGINT, PRIMARY KEY (a), INDEX i (a), INDEX j (a), UNIQUE i (a));":                    api.ErrTable,
		"^CREATE TABLE u (a BIGINT, PRIMARY KEY (a), INDEX \"primary\" (a));":                                     api.ErrTable,
		"^CREATE TABLE u (a BIGINT, UNIQUE i (a), UNIQUE \"primary\" (a), PRIMARY KEY (a));":                      api.ErrTable,
		"^CREATE TABLE u (a BIGINT, UNIQUE \"primary\" (a));":                                                     api.ErrTable,
		"^CREATE TABLE u (a BIGINT);":                                                                             api.ErrKey,
		"^CREATE TABLE u (a BIGINT NOT NULL, UNIQUE i (a));":                                                      api.ErrKey,
		"^CREATE TABLE u (a BIGINT, PRIMARY KEY (b));":                                                            api.ErrKey,
		"^CREATE TABLE u (a BIGINT, PRIMARY KEY (\"A\"));":                                                        api.ErrKey,
		"^CREATE TABLE u (a BIGINT, b BIGINT, PRIMARY KEY (a, b, c));":                                            api.ErrKey,
		"^CREATE TABLE u (a BIGINT, PRIMARY KEY (a, a));":                                                         api.ErrKey,
		"^CREATE TABLE u (a BIGINT, b BIGINT, PRIMARY KEY (a, b, a));":                                            api.ErrKey,
		"^CREATE TABLE u (a BIGINT, PRIMARY KEY (a), INDEX i (u));":                                               api.ErrKey,
		"^CREATE TABLE u (a BIGINT, PRIMARY KEY (a), UNIQUE i (a), UNIQUE j (b));":                                api.ErrKey,
		"^CREATE TABLE u (a BIGINT, PRIMARY KEY (a), INDEX i (a, a));":                                            api.ErrKey,
		"^CREATE TABLE u (a BIGINT, PRIMARY KEY (a)) PARTITION BY b;":                                             api.ErrPart,
		"^CREATE TABLE u (a BIGINT, PRIMARY KEY (a)) PARTITION BY \"A\";":                                         api.ErrPart,
		"^CREATE TABLE u (a BIGINT, PRIMARY KEY (a)) PARTITION BY \"primary\";":                                   api.ErrPart,
		"^CREATE TABLE u (a BIGINT, b BIGINT NOT NULL, PRIMARY KEY (a)) PARTITION BY b;":                          api.ErrPart,
		"^CREATE TABLE u (a BIGINT, b BIGINT, PRIMARY KEY (a), INDEX i (b)) PARTITION BY b;":                      api.ErrPart,
		"^CREATE TABLE u (a BIGINT, b BIGINT, PRIMARY KEY (a), UNIQUE i (b)) PARTITION BY b;":                     api.ErrPart,
		"^CREATE TABLE u (a BIGINT, b BIGINT, PRIMARY KEY (a), UNIQUE i (b)) PARTITION BY a;":                     api.ErrPart,
		"^CREATE TABLE u (a BIGINT, b BIGINT, PRIMARY KEY (a, b), UNIQUE i (b, a), UNIQUE j (b)) PARTITION BY a;": api.ErrPart,
	} {
		refuses(t, ahead+s, why)
		refuses(t, strings.Replace(ahead+s, "; ", ";\n/* ( */ ", 1), why)
	}
}

// P11.1: a key that is not Unique says nothing of the partition; a table and a procedure may have one name, in either order.
func TestTablesThatCanBe(t *testing.T) {
	for _, s := range []string{
		"",
		"CREATE TABLE u (a BIGINT, b BIGINT, PRIMARY KEY (a), INDEX i (b)) PARTITION BY a;",
		"CREATE TABLE u (a BIGINT, b BIGINT, PRIMARY KEY (b, a), INDEX i (b), UNIQUE j (a)) PARTITION BY a;",
		"CREATE TABLE u (a BIGINT, b BIGINT, PRIMARY KEY (b, a), UNIQUE i (b), UNIQUE j (a));",
		"CREATE TABLE u (a BIGINT, PRIMARY KEY (a)); CREATE PROCEDURE u () AS BEGIN DELETE FROM u; END;",
		"CREATE PROCEDURE u () AS BEGIN ABORT '' IF TRUE; END; CREATE TABLE u (a BIGINT, PRIMARY KEY (a));",
	} {
		loads(t, s, fault{})
	}
}

// flawed is a table with flaws of these numbers. (1: a name that is there; 2 to 4: twice, and a key named primary; 5 to 7: keys; 8, 9: the partition.)
func flawed(has func(flaw int) bool) string {
	pick := func(flaw int, bad, good string) string {
		if has(flaw) {
			return bad
		}
		return good
	}
	part := pick(8, "nn", pick(9, "b", "a"))
	return "CREATE TABLE " + pick(1, "t", "u") + " (a BIGINT, b BIGINT" + pick(2, ", b BOOLEAN", "") + pick(3, ", INDEX i (a)", "") +
		pick(4, ", INDEX \"primary\" (a)", "") + pick(5, "", ", PRIMARY KEY (a)") + ", INDEX i (a" + pick(6, ", z", "") + pick(7, ", a", "") +
		")) PARTITION BY " + part + ";"
}

// errorOf is the error of a flaw.
func errorOf(flaw int) api.Errno {
	switch {
	case flaw <= 4:
		return api.ErrTable
	case flaw <= 7:
		return api.ErrKey
	}
	return api.ErrPart
}

// P11.1: of several errors the first one is told, of one table and of two.
func TestFlawsOfTables(t *testing.T) {
	const ahead = "CREATE TABLE t (a BIGINT, PRIMARY KEY (a));\n"
	for set := range 1 << 9 {
		has := func(flaw int) bool { return set>>(flaw-1)&1 == 1 }
		want := fault{}
		for flaw := 9; flaw >= 1; flaw-- {
			if has(flaw) {
				want = fault{len(ahead), errorOf(flaw)}
			}
		}
		loads(t, ahead+flawed(has), want)
		behind := flawed(func(flaw int) bool { return flaw == 1+set%9 })
		if want.why == api.OK {
			want = fault{len(ahead + flawed(has)), api.ErrTable} // u is there already
		}
		loads(t, ahead+flawed(has)+behind, want)
	}
}

// P11.1: Load of what is no schema: parse's place and error.
func TestNoSchema(t *testing.T) {
	for s, want := range map[string]fault{
		"x": {0, api.ErrForm}, "CREATE": {6, api.ErrShort}, " 'a": {1, api.ErrOpen}, "CREATE TABLE t ();": {16, api.ErrForm}, "SELECT a FROM t;": {0, api.ErrForm},
		"CREATE TABLE t (a BIGINT); \x00": {27, api.ErrRune}, "CREATE TABLE t (a VARCHAR(4097), PRIMARY KEY (z));": {26, api.ErrForm}, "CREATE TABLE t (a BIGINT)": {25, api.ErrShort},
		strings.Repeat(" ", 65537):                                              {0, api.ErrLong},
		strings.Repeat("n", 33):                                                 {0, api.ErrName},
		"CREATE TABLE t (a BIGINT, PRIMARY KEY (a)) LIMIT 0;":                   {49, api.ErrForm},
		"CREATE TABLE t (a BIGINT, PRIMARY KEY (a), PRIMARY KEY (a));":          {43, api.ErrForm},
		"CREATE TABLE t (a BIGINT, PRIMARY KEY (a, a, a, a, a));":               {51, api.ErrLong},
		"CREATE PROCEDURE f () AS BEGIN END;":                                   {31, api.ErrForm},
		"CREATE PROCEDURE f () AS BEGIN ABORT 'x' IF 9999999999999999999; END;": {44, api.ErrOver},
		"CREATE TABLE t (a BIGINT); CREATE TABLE t (a BIGINT); 1.23456":         {54, api.ErrForm},
	} {
		if c, at, why := catalog.Load(s); c != nil || (fault{at, why}) != want {
			t.Errorf("%s: %v %d %v, not %v", short(s), c, at, why, want)
		}
	}
}

// P11.1: as many declarations as there may be, and one more.
func TestManyDeclarations(t *testing.T) {
	var l []api.Decl
	for i := range 256 {
		d := schema(t, "CREATE TABLE t (a BIGINT, PRIMARY KEY (a));")[0]
		d.Table.Name = fmt.Sprint("t", i)
		l = append(l, d)
	}
	c, at, why := catalog.New(l)
	if c == nil || at != 0 || why != api.OK || len(c.Tables()) != 256 {
		t.Fatal(at, why)
	}
	l[255].Table.Name, l[255].At = "t0", 99
	if c, at, why := catalog.New(l); c != nil || at != 99 || why != api.ErrTable {
		t.Error(at, why)
	}
	if c, at, why := catalog.New(append(l, l[1])); c != nil || at != 0 || why != api.ErrArg {
		t.Error(at, why)
	}
}
