package catalog_test

import (
	"math/rand"
	"slices"
	"strings"
	"testing"

	"lockstep/api"
	"lockstep/catalog"
	"lockstep/lex"
)

// someNames are told in the order of their bytes.
func someNames() []string {
	return []string{"\n", " ", "!", `"`, "1", "10", "2", "A", "T", "Z", "_", "a", "a b", "aa", "ab", "b", "select", "t", "t1", "t10", "t2", strings.Repeat("z", 32), "~", "é", "€", "\U0001f600"}
}

// quoted is a name as it is written.
func quoted(s string) string {
	written, _ := lex.Quote(s)
	return written
}

// P11.2: Tables, Procs are in the order of their names, however they were declared; a table and a procedure of one name are two.
func TestOrderOfNames(t *testing.T) {
	names := someNames()
	if !slices.IsSorted(names) {
		t.Fatal("they are not sorted")
	}
	r := rand.New(rand.NewSource(112))
	for range 20 {
		s := "CREATE TABLE t0 (a BIGINT, PRIMARY KEY (a));"
		for _, i := range r.Perm(len(names)) {
			s += "CREATE TABLE " + quoted(names[i]) + " (a BIGINT, PRIMARY KEY (a)) LIMIT " + string(rune('1'+i%9)) + ";"
		}
		for _, i := range r.Perm(len(names)) {
			s += "CREATE PROCEDURE " + quoted(names[i]) + " (p VARCHAR(" + string(rune('1'+i%9)) + ")) AS BEGIN DELETE FROM t0; END;"
		}
		c := made(t, s)
		all, procs := c.Tables(), c.Procs()
		all = slices.DeleteFunc(all, func(x api.Table) bool { return x.Name == "t0" })
		if len(all) != len(names) || len(procs) != len(names) {
			t.Fatal(len(all), len(procs))
		}
		for i, name := range names {
			x, why := c.Table(name)
			p, also := c.Proc(name)
			if x.Name != name || x.Most != 1+i%9 || p.Name != name || p.Params[0].Most != 1+i%9 || why != api.OK || also != api.OK {
				t.Errorf("%q: %v %v %v %v", name, x, why, p, also)
			}
			if !alike(all[i], x) || !alike(procs[i], p) {
				t.Errorf("%q: %v, %v", name, all[i], procs[i])
			}
		}
	}
}

// P11.2: names that are not there.
func TestNoSuchName(t *testing.T) {
	c := made(t, tables+"CREATE PROCEDURE f () AS BEGIN DELETE FROM t; END;")
	var none *catalog.Catalog
	empty := made(t, "-- nothing")
	for _, name := range []string{"", "T", "F", "tt", " t", "t ", "\"t\"", "a", "g", "\xff", strings.Repeat("t", 5000)} {
		for _, c := range []*catalog.Catalog{c, none, empty} {
			if x, why := c.Table(name); why != api.ErrName || !alike(x, api.Table{}) {
				t.Errorf("%q: %v %v", name, x, why)
			}
			if p, why := c.Proc(name); why != api.ErrName || !alike(p, api.Proc{}) {
				t.Errorf("%q: %v %v", name, p, why)
			}
		}
	}
	if _, why := c.Table("f"); why != api.ErrName {
		t.Error("a procedure is no table")
	}
	if _, why := c.Proc("t"); why != api.ErrName {
		t.Error("a table is no procedure")
	}
}

// P11.2: a nil Catalog has no tables and no procedures, and so knows no statement; nor has one of no declarations.
func TestNothing(t *testing.T) {
	var none *catalog.Catalog
	for _, c := range []*catalog.Catalog{none, made(t, "")} {
		if len(c.Tables()) != 0 || len(c.Procs()) != 0 {
			t.Error(c.Tables(), c.Procs())
		}
		checks(t, c, "SELECT z FROM ^t JOIN u ON 1 LIMIT :p", api.ErrName)
		checks(t, c, "^INSERT INTO t (a) VALUES (1, 2)", api.ErrName)
		checks(t, c, "^UPDATE t SET a = 1", api.ErrName)
		checks(t, c, "^DELETE FROM t", api.ErrName)
		for _, s := range []string{"SELECT z FROM t", "INSERT INTO t (a) VALUES (1)", "UPDATE t SET a = 1", "DELETE FROM t"} {
			if cols, why := c.Scope(stmt(t, s)); len(cols) != 0 || why != api.ErrName {
				t.Error(s, cols, why)
			}
		}
		if at, why := c.Check(api.Stmt{At: 4}, nil); at != 0 || why != api.ErrArg {
			t.Error(at, why)
		}
		if row, why := c.Bind("f", nil); len(row) != 0 || why != api.ErrName {
			t.Error(row, why)
		}
	}
}
