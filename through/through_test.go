package through_test

import (
	"fmt"
	"strings"
	"testing"

	"lockstep/api"
	"lockstep/catalog"
	"lockstep/parse"
	"lockstep/through"
)

const schema = "CREATE TABLE t (a BIGINT, PRIMARY KEY (a)); CREATE TABLE u (a BIGINT, b BIGINT, PRIMARY KEY (b)) PARTITION BY b;"

func stmt(t *testing.T, s string) api.Stmt {
	t.Helper()
	x, at, why := parse.Stmt(s)
	if why != api.OK {
		t.Fatal(s, at, why)
	}
	return x
}

// told is all Froms: under which name, and which table with how many columns.
func told(l []through.From) string {
	var out []string
	for _, f := range l {
		out = append(out, fmt.Sprint(f.As, "=", f.Form.Name, len(f.Form.Cols)))
	}
	return strings.Join(out, " ")
}

func TestFroms(t *testing.T) {
	c, _, why := catalog.Load(schema)
	if why != api.OK {
		t.Fatal(why)
	}
	for s, want := range map[string]string{
		"SELECT 1 FROM t": "t=t1",
		"SELECT 1 FROM u AS x JOIN t ON TRUE JOIN u AS t2 ON x": "x=u2 t=t1 t2=u2",
		"UPDATE u SET a = 1":           "u=u2",
		"DELETE FROM t":                "t=t1",
		"INSERT INTO u (a) VALUES (1)": "",
	} {
		x := stmt(t, s)
		if got := told(through.Froms(c, &x)); got != want {
			t.Errorf("%s: %q, not %q", s, got, want)
		}
	}
}

// conds is all conditions as they are written, and beside how many Froms.
func conds(t *testing.T, x api.Stmt) string {
	t.Helper()
	var out []string
	for _, c := range through.Conditions(&x) {
		s, why := parse.PrintExpr(c.Expr)
		if why != api.OK {
			t.Fatal(c, why)
		}
		out = append(out, fmt.Sprint(s, " ", c.Froms))
	}
	return strings.Join(out, ", ")
}

func TestConditions(t *testing.T) {
	for s, want := range map[string]string{
		"SELECT 1 FROM t": "",
		"SELECT 1 FROM t WHERE a = 1 AND (b AND c OR d)":                                                 "a = 1 1, b AND c OR d 1",
		"SELECT 1 FROM t JOIN u ON a = 1 AND b JOIN t AS x ON NOT (c AND d) JOIN t AS y ON TRUE":         "a = 1 2, b 2, NOT (c AND d) 3, TRUE 4",
		"SELECT 1 FROM t JOIN u ON a JOIN u AS x ON b WHERE c AND (d AND (e AND f)) GROUP BY a HAVING b": "a 2, b 3, c 3, d 3, e 3, f 3",
		"UPDATE u SET a = 1 WHERE a AND b":                                                               "a 1, b 1",
		"UPDATE u SET a = b AND c":                                                                       "",
		"DELETE FROM u WHERE a = b AND c IN (1)":                                                         "a = b 1, c IN (1) 1",
		"DELETE FROM u":                                                                                  "",
		"INSERT INTO u (a) VALUES (b AND c)":                                                             "",
	} {
		if got := conds(t, stmt(t, s)); got != want {
			t.Errorf("%s: %q, not %q", s, got, want)
		}
	}
}

// What plays no part is not gone into, however deep it is.
func TestWhatIsNoCondition(t *testing.T) {
	endless := []api.Expr{{Op: "and"}, {Op: "and"}}
	endless[0].Parts, endless[1].Parts = endless, endless
	x := stmt(t, "SELECT 1 FROM t JOIN u ON a")
	x.From[0].On = endless[0]
	x.Where.Parts = endless
	if got := conds(t, x); got != "a 2" {
		t.Error(got)
	}
	for _, s := range []string{"DELETE FROM t", "UPDATE t SET a = 1"} {
		x = stmt(t, s)
		x.Where.Parts, x.From = endless, []api.From{{}, {On: endless[0]}}
		if got := conds(t, x); got != "" {
			t.Errorf("%s: %s", s, got)
		}
	}
	x = stmt(t, "INSERT INTO t (a) VALUES (1)")
	x.Where, x.From = endless[0], []api.From{{}, {On: endless[0]}}
	if got := conds(t, x); got != "" {
		t.Error(got)
	}
}
