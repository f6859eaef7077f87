package bag_test

import (
	"fmt"
	"strings"
	"testing"

	"lockstep/api"
)

// joined is two tables that have a column of one name each.
const joined = `CREATE TABLE t (a BIGINT, b BIGINT, PRIMARY KEY (a));
CREATE TABLE u (a BIGINT, c BIGINT, PRIMARY KEY (a));
CREATE TABLE w (x BIGINT, y VARCHAR(9), PRIMARY KEY (x));`

// part is a condition, and what it comes to where what it is of is 1: TRUE, FALSE, NULL, or an error.
type part struct {
	text string
	is   string
	why  api.Errno
}

func partsOf(of string) []part {
	return []part{
		{of + " = 1", "TRUE", api.OK},
		{of + " = 2", "FALSE", api.OK},
		{of + " = NULL", "NULL", api.OK},
		{"NULL", "NULL", api.OK},
		{"1 / (" + of + " - 1) = 1", "", api.ErrZero},
		{of + " + 9223372036854775807 > 0", "", api.ErrOver},
		{"CAST('x' AS BIGINT) = " + of, "", api.ErrForm},
	}
}

// verdict is what several Parts come to together: whether they hold, and with which error not.
func verdict(parts ...part) (bool, api.Errno) {
	least := api.OK
	for _, p := range parts {
		if p.is == "FALSE" || p.is == "NULL" {
			return false, api.OK
		}
		if p.why != api.OK && (least == api.OK || p.why < least) {
			least = p.why
		}
	}
	return least == api.OK, least
}

// each tells every choice of one of each list.
func each[T any](lists [][]T, tell func(l []T)) {
	if len(lists) == 0 {
		tell(nil)
		return
	}
	for _, x := range lists[0] {
		each(lists[1:], func(l []T) { tell(append([]T{x}, l...)) })
	}
}

func texts(parts []part) []any {
	var l []any
	for _, p := range parts {
		l = append(l, p.text)
	}
	return l
}

// P13.2: a condition of several Parts, each of which is TRUE, FALSE, NULL, or errs in one of three ways, in each place of an ON and of WHERE.
func TestConditionOfOnsAndWhere(t *testing.T) {
	c := made(t, joined)
	d := data("1, 1", "1, 1", "1, 'x'")
	each([][]part{partsOf("t.a"), partsOf("c"), partsOf("1"), partsOf("b")}, func(l []part) {
		s := fmt.Sprintf("SELECT b FROM t JOIN u ON %s AND %s WHERE %s AND %s", texts(l)...)
		holds, why := verdict(l...)
		switch {
		case why != api.OK:
			errs(t, c, d, s, why)
		case holds:
			says(t, c, d, s, "1")
		default:
			says(t, c, d, s, "")
		}
	})
}

// P13.2: Parts that hang on later tables alone, on none, and on several, in Ons ahead and behind.
func TestConditionOverThreeTables(t *testing.T) {
	c := made(t, joined)
	d := data("1, 1", "1, 1", "1, 'x'")
	each([][]part{partsOf("c"), partsOf("t.a * w.x"), partsOf("t.b * c"), partsOf("w.x")}, func(l []part) {
		s := fmt.Sprintf("SELECT b FROM t JOIN u ON %s JOIN w ON %s AND %s WHERE %s", texts(l)...)
		holds, why := verdict(l...)
		got := run(t, c, d, stmt(t, s), nil, nil)
		if got.why != why || len(got.rows) == 1 != holds {
			t.Errorf("%s: %v %v, not %v %v", s, got.rows, got.why, holds, why)
		}
	})
}

// P13.2: the same of an UPDATE, a DELETE and a HAVING, over one table.
func TestConditionOfOthers(t *testing.T) {
	c := made(t, joined)
	d := data("1, 1; 2, 7", "1, 1", "1, 'x'")
	each([][]part{partsOf("a"), partsOf("b"), partsOf("1")}, func(l []part) {
		holds, why := verdict(l...)
		where := fmt.Sprintf("a = 1 AND (%s) AND %s AND %s", texts(l)...)
		if why != api.OK {
			errs(t, c, d, "UPDATE t SET b = 5 WHERE "+where, why)
			errs(t, c, d, "DELETE FROM t WHERE "+where, why)
		} else if holds {
			leaves(t, c, d, "UPDATE t SET b = 5 WHERE "+where, 1, 0, "1, 5; 2, 7")
			leaves(t, c, d, "DELETE FROM t WHERE "+where, 1, 0, "2, 7")
		} else {
			leaves(t, c, d, "UPDATE t SET b = 5 WHERE "+where, 0, 0, "1, 1; 2, 7")
			leaves(t, c, d, "DELETE FROM t WHERE "+where, 0, 0, "1, 1; 2, 7")
		}
		having := "SELECT a, MIN(b) AS b FROM t GROUP BY a HAVING " + where
		switch {
		case why != api.OK:
			errs(t, c, d, having, why)
		case holds:
			says(t, c, d, having, "1, 1")
		default:
			says(t, c, d, having, "")
		}
	})
}

// P13.2: a row for which the condition errs is enough, of several it is the least number, whatever their order; rows that are out have no say.
func TestConditionOfSeveralRows(t *testing.T) {
	c := made(t, joined)
	// For a = 1 ErrZero, for 2 ErrOver, for 3 ErrForm; 4 is out, 5 is in.
	cond := "CASE WHEN a = 1 THEN 1 / 0 = 1 ELSE CASE WHEN a = 2 THEN 9223372036854775807 + a > 0 ELSE CASE WHEN a = 3 THEN CAST('x' AS BIGINT) = 1 ELSE a = 5 END END END"
	for _, x := range []struct {
		rows string
		why  api.Errno
		in   string
	}{
		{"1, 0; 2, 0; 3, 0; 4, 0; 5, 0", api.ErrForm, ""}, {"3, 0; 5, 0; 2, 0; 1, 0", api.ErrForm, ""},
		{"2, 0; 1, 0; 4, 0", api.ErrOver, ""}, {"1, 0; 2, 0", api.ErrOver, ""}, {"5, 0; 1, 0", api.ErrZero, ""},
		{"4, 0; 5, 0", api.OK, "5"}, {"4, 0", api.OK, ""}, {"", api.OK, ""},
	} {
		d := data(x.rows, "1, 1; 2, 2", "")
		for _, s := range []string{
			"SELECT a FROM t WHERE " + cond,
			"SELECT t.a FROM u JOIN t ON u.a = 1 AND (" + strings.ReplaceAll(cond, "a =", "t.a =") + ")",
			"SELECT a FROM t GROUP BY a HAVING " + cond,
		} {
			s = strings.ReplaceAll(s, "807 + a", "807 + 1")
			if x.why != api.OK {
				errs(t, c, d, s, x.why)
			} else {
				says(t, c, d, s, x.in)
			}
		}
		if x.why != api.OK {
			errs(t, c, d, "UPDATE t SET a = a / 0 WHERE "+cond, x.why)
			errs(t, c, d, "DELETE FROM t WHERE "+cond, x.why)
		}
		// Beside what is never TRUE, nothing errs.
		says(t, c, d, "SELECT a FROM t WHERE ("+cond+") AND a = 9", "")
		says(t, c, d, "SELECT a FROM t WHERE NULL AND ("+cond+")", "")
	}
}

// P13.2: a condition is asked of rows that are there alone.
func TestConditionOfNoRows(t *testing.T) {
	c := made(t, joined)
	for _, d := range []api.Data{data("", "", ""), data("", "1, 1", ""), data("1, 1", "", "")} {
		says(t, c, d, "SELECT t.a FROM t JOIN u ON 1 / 0 = 1 WHERE 1 / 0 = 1", "")
		says(t, c, d, "SELECT t.a FROM t JOIN u ON 1 / t.a = 1 WHERE 1 / (t.a - 1) = 1 OR u.a / 0 = 1", "")
	}
	d := data("", "", "")
	leaves(t, c, d, "UPDATE t SET a = 1 / 0 WHERE 1 / 0 = 1", 0, 0, "")
	leaves(t, c, d, "DELETE FROM t WHERE 1 / 0 = 1", 0, 0, "")
	says(t, c, d, "SELECT COUNT(*) FROM t WHERE 1 / 0 = 1", "0")
}

// P13.2: an ON names what stands beside it up to its own table, even if there is more of that name behind.
func TestOnSeesNoTableBehind(t *testing.T) {
	c := made(t, joined)
	d := data("1, 1; 2, 2", "1, 10; 2, 20", "2, 'x'")
	says(t, c, d, "SELECT t.a, c, x FROM t JOIN w ON a = x JOIN u ON t.a = u.a", "2, 20, 2")
	says(t, c, d, "SELECT t.a, c FROM w JOIN t ON a = x JOIN u ON c = 20 AND b = 2", "2, 20")
	errs(t, c, d, "SELECT c FROM t JOIN w ON a = x JOIN u ON a = 1", api.ErrName)
	errs(t, c, d, "SELECT c FROM t JOIN w ON a = x JOIN u ON t.a = u.a WHERE a = 1", api.ErrName)
}

// The chapter's example: of a row one Part errs, the other one is FALSE.
func TestExampleOfParts(t *testing.T) {
	c := made(t, joined)
	d := data("1, NULL; 2, 5", "", "")
	says(t, c, d, "SELECT a, b FROM t WHERE 10 / (a - 1) > 0 AND a = 2", "2, 5")
	says(t, c, d, "SELECT a, b FROM t WHERE a = 2 AND 10 / (a - 1) > 0", "2, 5")
	errs(t, c, d, "SELECT a, b FROM t WHERE 10 / (a - 1) > 0 AND a < 3", api.ErrZero)
	errs(t, c, d, "SELECT a, b FROM t WHERE 10 / (a - 1) > 0 AND a = 2 OR FALSE", api.ErrZero)
	says(t, c, d, "SELECT a, b FROM t WHERE a = 2 AND 10 / (a - 1) > 0 OR FALSE", "2, 5")
}
