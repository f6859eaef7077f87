package bag_test

import (
	"strings"
	"testing"

	"lockstep/api"
)

// kept is tables whose rows must be as their forms say.
const kept = `CREATE TABLE t (a BIGINT, b BIGINT, PRIMARY KEY (a)) LIMIT 3;
CREATE TABLE u (a BIGINT, d DECIMAL, s VARCHAR(2), f BOOLEAN NOT NULL, PRIMARY KEY (a), UNIQUE k (s, d)) LIMIT 4;
CREATE TABLE w (a BIGINT, b BIGINT, c BIGINT, PRIMARY KEY (a, b), UNIQUE k (c, a)) PARTITION BY a;`

func keptData() api.Data {
	return data("1, NULL; 2, 5", "1, 1.5, 'x', TRUE; 2, NULL, 'x', FALSE", "")
}

// P13.2: INSERT: one more row, of some of the columns, as the columns' types; all others NULL.
func TestInsert(t *testing.T) {
	c, d := made(t, kept), keptData()
	for _, x := range []struct {
		s     string
		place int
		want  string
	}{
		{"INSERT INTO t (a) VALUES (9)", 0, "1, NULL; 2, 5; 9, NULL"},
		{"INSERT INTO t (b, a) VALUES (1, 0)", 0, "1, NULL; 2, 5; 0, 1"},
		{"INSERT INTO t (a, b) VALUES (:p + 2, :n)", 0, "1, NULL; 2, 5; 3, NULL"},
		{"INSERT INTO t (a, b) VALUES (CAST('7' AS BIGINT), LENGTH(:r))", 0, "1, NULL; 2, 5; 7, 1"},
		{"INSERT INTO u (a, f) VALUES (3, TRUE)", 1, "1, 1.5, 'x', TRUE; 2, NULL, 'x', FALSE; 3, NULL, NULL, TRUE"},
		{"INSERT INTO u (f, s, d, a) VALUES (FALSE, 'ab', 7, 3)", 1, "1, 1.5, 'x', TRUE; 2, NULL, 'x', FALSE; 3, 7.0, 'ab', FALSE"},
		{"INSERT INTO u (f, d, a) VALUES (FALSE, 922337203685477, 3)", 1, "1, 1.5, 'x', TRUE; 2, NULL, 'x', FALSE; 3, 922337203685477.0, NULL, FALSE"},
		{"INSERT INTO u (f, d, a) VALUES (:f, NULL, 3)", 1, "1, 1.5, 'x', TRUE; 2, NULL, 'x', FALSE; 3, NULL, NULL, TRUE"},
		{"INSERT INTO u (f, d, s, a) VALUES (:f, NULL, 'x', 3)", 1, "1, 1.5, 'x', TRUE; 2, NULL, 'x', FALSE; 3, NULL, 'x', TRUE"},
		{"INSERT INTO u (f, d, s, a) VALUES (:f, 1.5, NULL, 3)", 1, "1, 1.5, 'x', TRUE; 2, NULL, 'x', FALSE; 3, 1.5, NULL, TRUE"},
		{"INSERT INTO u (f, d, s, a) VALUES (:f, :q, 'é', 3)", 1, "1, 1.5, 'x', TRUE; 2, NULL, 'x', FALSE; 3, 1.5, 'é', TRUE"},
		{"INSERT INTO w (a, b) VALUES (1, 2)", 2, "1, 2, NULL"},
	} {
		leaves(t, c, d, x.s, 1, x.place, x.want)
	}
}

// P13.2: INSERT's errors: the least of the values', then the first of ErrNull, ErrLong, ErrTwice, ErrFull.
func TestInsertErrors(t *testing.T) {
	c, d := made(t, kept), keptData()
	full := data("1, NULL; 2, 5; 3, 6", "1, 1.5, 'x', TRUE; 2, NULL, 'x', FALSE; 3, 0.0, 'y', TRUE; 4, 0.0, 'z', TRUE", "")
	for s, why := range map[string]api.Errno{
		"INSERT INTO t (b) VALUES (9)":                                                                api.ErrNull,
		"INSERT INTO t (a) VALUES (NULL)":                                                             api.ErrNull,
		"INSERT INTO t (a) VALUES (:n)":                                                               api.ErrNull,
		"INSERT INTO u (a) VALUES (3)":                                                                api.ErrNull,
		"INSERT INTO u (a, f, s) VALUES (3, TRUE, 'xyz')":                                             api.ErrLong,
		"INSERT INTO u (a, f, s) VALUES (3, TRUE, 'éé')":                                              api.ErrLong,
		"INSERT INTO t (a) VALUES (1)":                                                                api.ErrTwice,
		"INSERT INTO u (a, d, s, f) VALUES (3, 1.5, 'x', TRUE)":                                       api.ErrTwice,
		"INSERT INTO u (a, s, f) VALUES (1, 'y', TRUE)":                                               api.ErrTwice,
		"INSERT INTO t (a) VALUES (1 / 0)":                                                            api.ErrZero,
		"INSERT INTO t (a, b) VALUES (1 / 0, 1 + 9223372036854775807)":                                api.ErrOver,
		"INSERT INTO t (b, a) VALUES (1 / 0, 1 + 9223372036854775807)":                                api.ErrOver,
		"INSERT INTO t (a, b) VALUES (1 / 0, CAST('x' AS BIGINT))":                                    api.ErrForm,
		"INSERT INTO u (a, d, f) VALUES (3, 922337203685478, TRUE)":                                   api.ErrOver,
		"INSERT INTO u (a, d, f) VALUES (3, -922337203685478, TRUE)":                                  api.ErrOver,
		"INSERT INTO u (a, d, f) VALUES (1 / 0, 922337203685478, TRUE)":                               api.ErrOver,
		"INSERT INTO u (a, d, f) VALUES (CAST('' AS BIGINT), 922337203685478, TRUE)":                  api.ErrForm,
		"INSERT INTO u (a, d) VALUES (3, 922337203685478)":                                            api.ErrOver,
		"INSERT INTO u (d, s) VALUES (1 / 0, 'xyz')":                                                  api.ErrZero,
		"INSERT INTO u (s) VALUES ('xyz')":                                                            api.ErrNull,
		"INSERT INTO u (a, s, f) VALUES (1, 'xyz', TRUE)":                                             api.ErrLong,
		"INSERT INTO w (b, c) VALUES (1, 1)":                                                          api.ErrNull,
		"INSERT INTO u (a, s, f) VALUES (1, CAST(TRUE AS VARCHAR(4)), CAST(1 AS BOOLEAN))":            api.ErrType,
		"INSERT INTO u (a, s, f) VALUES (1, 'x' || '" + strings.Repeat("x", api.MaxText) + "', TRUE)": api.ErrLong,
	} {
		errs(t, c, d, s, why)
		if strings.Contains(s, "INTO t") || strings.Contains(s, "INTO u") {
			errs(t, c, full, s, why) // ErrFull comes last
		}
	}
	errs(t, c, full, "INSERT INTO t (a) VALUES (9)", api.ErrFull)
	errs(t, c, full, "INSERT INTO u (a, f) VALUES (9, TRUE)", api.ErrFull)
	leaves(t, c, full, "INSERT INTO w (a, b) VALUES (9, 9)", 1, 2, "9, 9, NULL")
}

// P13.2: UPDATE: each row for which WHERE holds becomes another one, of the row as it was; keys may move past each other.
func TestUpdate(t *testing.T) {
	c := made(t, kept)
	d := data("1, NULL; 2, 5; 3, 2", "1, 1.5, 'x', TRUE; 2, NULL, 'x', FALSE", "1, 1, 1; 1, 2, 2; 2, 1, NULL")
	for _, x := range []struct {
		s     string
		n     int64
		place int
		want  string
	}{
		{"UPDATE t SET a = a + 1", 3, 0, "2, NULL; 3, 5; 4, 2"},
		{"UPDATE t SET a = a - 1", 3, 0, "0, NULL; 1, 5; 2, 2"},
		{"UPDATE t SET a = 4 - a", 3, 0, "3, NULL; 2, 5; 1, 2"},
		{"UPDATE t SET a = -a WHERE a > 1", 2, 0, "1, NULL; -2, 5; -3, 2"},
		{"UPDATE t SET a = b, b = a WHERE b IS NOT NULL AND a <> 3", 1, 0, "1, NULL; 5, 2; 3, 2"},
		{"UPDATE t SET a = b, b = a WHERE b > 2", 1, 0, "1, NULL; 5, 2; 3, 2"},
		{"UPDATE t SET b = a, a = a", 3, 0, "1, 1; 2, 2; 3, 3"},
		{"UPDATE t SET b = 7", 3, 0, "1, 7; 2, 7; 3, 7"},
		{"UPDATE t SET b = NULL WHERE b = 5", 1, 0, "1, NULL; 2, NULL; 3, 2"},
		{"UPDATE t SET b = b", 3, 0, "1, NULL; 2, 5; 3, 2"},
		{"UPDATE t SET b = 5 WHERE b = 5", 1, 0, "1, NULL; 2, 5; 3, 2"},
		{"UPDATE t SET b = 9 WHERE a > 9", 0, 0, "1, NULL; 2, 5; 3, 2"},
		{"UPDATE t SET b = 9 WHERE NULL", 0, 0, "1, NULL; 2, 5; 3, 2"},
		{"UPDATE t SET b = 1 / b", 3, 0, "1, NULL; 2, 0; 3, 0"},
		{"UPDATE t SET b = :p WHERE a = :p", 1, 0, "1, 1; 2, 5; 3, 2"},
		{"UPDATE t SET a = t.a + 10 WHERE t.a = 1", 1, 0, "11, NULL; 2, 5; 3, 2"},
		{"UPDATE t SET a = CASE WHEN a = 1 THEN 2 ELSE CASE WHEN a = 2 THEN 3 ELSE 1 END END", 3, 0, "2, NULL; 3, 5; 1, 2"},
	} {
		leaves(t, c, d, x.s, x.n, x.place, x.want)
	}
	leaves(t, c, d, "UPDATE u SET d = a", 2, 1, "1, 1.0, 'x', TRUE; 2, 2.0, 'x', FALSE")
	leaves(t, c, d, "UPDATE u SET d = NULL, s = 'x'", 2, 1, "1, NULL, 'x', TRUE; 2, NULL, 'x', FALSE")
	leaves(t, c, d, "UPDATE u SET f = NOT f, s = s || :r", 2, 1, "1, 1.5, 'xx', FALSE; 2, NULL, 'xx', TRUE")
	leaves(t, c, d, "UPDATE w SET b = 3 - b WHERE a = 1", 2, 2, "1, 2, 1; 1, 1, 2; 2, 1, NULL")
	leaves(t, c, d, "UPDATE w SET c = 3 - c", 3, 2, "1, 1, 2; 1, 2, 1; 2, 1, NULL")
	leaves(t, c, d, "UPDATE w SET c = NULL", 3, 2, "1, 1, NULL; 1, 2, NULL; 2, 1, NULL")
}

// P13.2: UPDATE's errors: those of conditions, then those of values, the least numbers; then of the table as it would be the first of ErrNull, ErrLong, ErrTwice.
func TestUpdateErrors(t *testing.T) {
	c := made(t, kept)
	d := data("1, 0; 2, 9223372036854775807; 3, 3", "1, 1.5, 'x', TRUE; 2, 2.5, 'x', FALSE; 3, 1.5, NULL, TRUE", "1, 1, 1; 1, 2, 2; 2, 1, NULL")
	for s, why := range map[string]api.Errno{
		"UPDATE t SET a = 7":                                                   api.ErrTwice,
		"UPDATE t SET a = 2 WHERE a = 1":                                       api.ErrTwice,
		"UPDATE t SET a = a / 2":                                               api.ErrTwice,
		"UPDATE t SET a = NULL WHERE a = 1":                                    api.ErrNull,
		"UPDATE t SET a = NULL":                                                api.ErrNull,
		"UPDATE u SET d = 1.5":                                                 api.ErrTwice,
		"UPDATE u SET s = 'x'":                                                 api.ErrTwice,
		"UPDATE u SET f = NULL":                                                api.ErrNull,
		"UPDATE u SET s = 'xyz' WHERE a = 3":                                   api.ErrLong,
		"UPDATE u SET s = 'xyz', f = NULL":                                     api.ErrNull,
		"UPDATE u SET s = 'xyz', f = CASE WHEN a = 3 THEN NULL ELSE f END":     api.ErrNull,
		"UPDATE u SET s = 'xyz', d = 1.5":                                      api.ErrLong,
		"UPDATE u SET s = CASE WHEN a = 3 THEN 'xyz' ELSE 'x' END, d = 1":      api.ErrLong,
		"UPDATE u SET d = 922337203685478 WHERE a = 1":                         api.ErrOver,
		"UPDATE u SET d = 922337203685478, a = 1 / (a - 3)":                    api.ErrOver,
		"UPDATE u SET a = 1 / (a - 3), f = NULL, s = 'xyz'":                    api.ErrZero,
		"UPDATE t SET a = 1 / b":                                               api.ErrZero,
		"UPDATE t SET b = b + 1":                                               api.ErrOver,
		"UPDATE t SET a = 1 / b, b = b + 1":                                    api.ErrOver,
		"UPDATE t SET b = b + 1, a = 1 / b":                                    api.ErrOver,
		"UPDATE t SET b = b + 1, a = CAST('x' AS BIGINT) WHERE a <> 2":         api.ErrForm,
		"UPDATE t SET b = b + 1 WHERE 1 / b >= 0":                              api.ErrZero,
		"UPDATE t SET a = NULL WHERE 1 / b >= 0":                               api.ErrZero,
		"UPDATE t SET b = CAST('x' AS BIGINT) WHERE 1 / b >= 0 AND b + 1 <> 0": api.ErrOver,
		"UPDATE w SET c = 1":                                                   api.ErrTwice,
		"UPDATE w SET b = 1 WHERE a = 1":                                       api.ErrTwice,
		"UPDATE w SET a = 1":                                                   api.ErrPart,
	} {
		errs(t, c, d, s, why)
	}
	// Rows for which WHERE does not hold have no values.
	leaves(t, c, d, "UPDATE t SET b = 6 / b WHERE a = 3", 1, 0, "1, 0; 2, 9223372036854775807; 3, 2")
	leaves(t, c, d, "UPDATE w SET b = 1 WHERE a = 2 OR b = 1", 2, 2, "1, 1, 1; 1, 2, 2; 2, 1, NULL")
}

// P13.2: DELETE of none, of some, of all.
func TestDelete(t *testing.T) {
	c := made(t, kept)
	d := data("1, NULL; 2, 5; 3, 5", "1, 1.5, 'x', TRUE; 2, NULL, 'x', FALSE", "")
	for _, x := range []struct {
		s     string
		n     int64
		place int
		want  string
	}{
		{"DELETE FROM t", 3, 0, ""}, {"DELETE FROM t WHERE TRUE", 3, 0, ""},
		{"DELETE FROM t WHERE FALSE", 0, 0, "1, NULL; 2, 5; 3, 5"}, {"DELETE FROM t WHERE NULL", 0, 0, "1, NULL; 2, 5; 3, 5"},
		{"DELETE FROM t WHERE b = 5", 2, 0, "1, NULL"}, {"DELETE FROM t WHERE b <> 5", 0, 0, "1, NULL; 2, 5; 3, 5"},
		{"DELETE FROM t WHERE t.a = :p", 1, 0, "2, 5; 3, 5"}, {"DELETE FROM t WHERE a = :n", 0, 0, "1, NULL; 2, 5; 3, 5"},
		{"DELETE FROM t WHERE b IS NULL OR a = 3", 2, 0, "2, 5"},
		{"DELETE FROM u WHERE f AND d = 1.5", 1, 1, "2, NULL, 'x', FALSE"}, {"DELETE FROM w", 0, 2, ""}, {"DELETE FROM w WHERE 1 / 0 = 1", 0, 2, ""},
	} {
		leaves(t, c, d, x.s, x.n, x.place, x.want)
	}
	errs(t, c, d, "DELETE FROM t WHERE 1 / (b - 5) = 1", api.ErrZero)
	errs(t, c, d, "DELETE FROM t WHERE CASE WHEN a = 2 THEN 1 / 0 ELSE 9223372036854775807 + a END = 1", api.ErrOver)
	errs(t, c, d, "DELETE FROM z", api.ErrName)
}

// P13.2, P13.4: a table that is full may be changed and emptied; what values hold beyond their types is gone behind it, in all tables.
func TestChangeOfLooseRows(t *testing.T) {
	c := made(t, kept)
	odd := func(v api.Value) api.Value {
		if v.Type == api.Text {
			v.Int = 9
		} else {
			v.Text = "odd"
		}
		return v
	}
	d := data("1, NULL; 2, 5; 3, 6", "1, 1.5, 'x', TRUE; 2, NULL, 'x', FALSE", "1, 1, 1")
	for _, l := range d {
		for _, r := range l {
			for i, v := range r {
				r[i] = odd(v)
			}
		}
	}
	leaves(t, c, d, "UPDATE t SET a = a + 1", 3, 0, "2, NULL; 3, 5; 4, 6")
	leaves(t, c, d, "DELETE FROM t WHERE b IS NULL", 1, 0, "2, 5; 3, 6")
	leaves(t, c, d, "INSERT INTO w (a, b) VALUES (2, 2)", 1, 2, "1, 1, 1; 2, 2, NULL")
	errs(t, c, d, "INSERT INTO w (a, b, c) VALUES (1, 2, 1)", api.ErrTwice)
	errs(t, c, d, "INSERT INTO t (a) VALUES (4)", api.ErrFull)
}
