package exec_test

import (
	"fmt"
	"math"
	"strings"
	"testing"

	"lockstep/api"
	"lockstep/bag"
	"lockstep/exec"
	"lockstep/table"
)

// P16.4: an INSERT's row, with NULLs for what it does not name, values as the columns' types; of several, one that is refused leaves the others.
func TestInsert(t *testing.T) {
	c := made(t, "CREATE TABLE t (a BIGINT, d DECIMAL, s VARCHAR(3), f BOOLEAN, PRIMARY KEY (a), UNIQUE k (d, s)) LIMIT 4;")
	l := loaded(t, c, data("1, 1.0, 'x', TRUE; 2, NULL, 'x', NULL"))
	old := "1, 1.0, 'x', TRUE; 2, NULL, 'x', NULL; "
	leaves(t, c, l, "INSERT INTO t (a) VALUES (3)", 1, old+"3, NULL, NULL, NULL")
	leaves(t, c, l, "INSERT INTO t (f, s, d, a) VALUES (:f, :r || 'y', :p, 1 + 2)", 1, old+"3, 1.0, 'xy', TRUE")
	leaves(t, c, l, "INSERT INTO t (a, d) VALUES (:p * 9, :q)", 1, old+"9, 1.5, NULL, NULL")
	leaves(t, c, l, "INSERT INTO t (a, s, d) VALUES (4, 'x', NULL)", 1, old+"4, NULL, 'x', NULL")
	errs(t, c, l, "INSERT INTO t (a) VALUES (1)", api.ErrTwice)
	errs(t, c, l, "INSERT INTO t (a, d, s) VALUES (7, 1, 'x')", api.ErrTwice)
	errs(t, c, l, "INSERT INTO t (a) VALUES (:n)", api.ErrNull)
	errs(t, c, l, "INSERT INTO t (d) VALUES (1)", api.ErrNull)
	errs(t, c, l, "INSERT INTO t (a, s) VALUES (7, 'wxyz')", api.ErrLong)
	errs(t, c, l, "INSERT INTO t (a, d) VALUES (7, 9223372036854775807)", api.ErrOver)
	errs(t, c, l, "INSERT INTO t (a, d) VALUES (1 / 0, 9223372036854775807)", api.ErrOver)
	errs(t, c, l, "INSERT INTO t (a, d, s) VALUES (1 / 0, 9223372036854775807, CAST(CAST('x' AS BIGINT) AS VARCHAR(3)))", api.ErrForm)
	b, _ := exec.New(c, clones(l))
	for _, x := range []struct {
		s    string
		want api.Errno
	}{{"3", api.OK}, {"1", api.ErrTwice}, {"4", api.OK}, {"5", api.ErrFull}, {"4", api.ErrTwice}} {
		if _, why := b.Run(stmt(t, "INSERT INTO t (a) VALUES ("+x.s+")"), nil, nil); why != x.want {
			t.Errorf("%s: %v, not %v", x.s, why, x.want)
		}
	}
	if got := told(exec.Data(b.Tables())[0]); got != old+"3, NULL, NULL, NULL; 4, NULL, NULL, NULL" {
		t.Error(got)
	}
}

// P16.4: what is wrong with a row that comes: a NULL ahead of what is too long, that ahead of a key that is there, that ahead of a table that is full; in whichever columns and keys. All sets are tried, of an INSERT and of an UPDATE.
func TestWhatIsWrongFirst(t *testing.T) {
	c := made(t, "CREATE TABLE t (s VARCHAR(2), a BIGINT, n BIGINT NOT NULL, r VARCHAR(2), b BIGINT, PRIMARY KEY (a), UNIQUE k (b)) LIMIT 3;")
	few := loaded(t, c, data("'', 1, 1, '', 1; '', 2, 2, '', 2"))
	full := loaded(t, c, data("'', 1, 1, '', 1; '', 2, 2, '', 2; '', 3, 3, '', 3"))
	for set := range 1 << 7 {
		has := func(no int) bool { return set>>no&1 == 1 }
		or := func(no int, wrong, right string) string {
			if has(no) {
				return wrong
			}
			return right
		}
		row := []string{or(0, "'abc'", "'ab'"), or(1, "2", "7"), or(2, "NULL", "7"), or(3, "'xyz'", "'xy'"), or(4, "2", "7")}
		want, l := api.OK, few
		if has(5) {
			l, want = full, api.ErrFull
		}
		if has(1) || has(4) {
			want = api.ErrTwice
		}
		if has(0) || has(3) {
			want = api.ErrLong
		}
		if has(2) {
			want = api.ErrNull
		}
		if has(6) {
			row[2], want = "CAST('z' AS BIGINT)", api.ErrForm
		}
		s := "INSERT INTO t (s, a, n, r, b) VALUES (" + strings.Join(row, ", ") + ")"
		if got := all(t, c, l, s); got.why != want {
			t.Errorf("%s: %v, not %v", s, got.why, want)
		}
		s = fmt.Sprintf("UPDATE t SET s = %s, a = %s, n = %s, r = %s, b = %s WHERE a = 1", row[0], row[1], row[2], row[3], row[4])
		if want == api.ErrFull {
			want = api.OK
		}
		if got := all(t, c, l, s); got.why != want {
			t.Errorf("%s: %v, not %v", s, got.why, want)
		}
	}
	// A NULL in a later row stands ahead of what is too long in one that comes first, and so on.
	errs(t, c, few, "UPDATE t SET s = 'abc', n = CASE WHEN a = 2 THEN NULL ELSE 1 END", api.ErrNull)
	errs(t, c, few, "UPDATE t SET a = 7, r = CASE WHEN a = 2 THEN 'abc' ELSE '' END", api.ErrLong)
	errs(t, c, few, "UPDATE t SET a = 7", api.ErrTwice)
	errs(t, c, few, "UPDATE t SET b = 7", api.ErrTwice)
	leaves(t, c, few, "UPDATE t SET b = NULL", 2, "'', 1, 1, '', NULL; '', 2, 2, '', NULL")
	leaves(t, c, full, "UPDATE t SET b = 4 - b, a = a + 1", 3, "'', 2, 1, '', 3; '', 3, 2, '', 2; '', 4, 3, '', 1")
}

// P16.4: an UPDATE of two keys by which rows take each other's places, in all ways that there are for three of them beside one that stays; also where they may not.
func TestPlaces(t *testing.T) {
	t.Parallel()
	c := made(t, "CREATE TABLE t (a BIGINT, b BIGINT, c BIGINT, PRIMARY KEY (a), UNIQUE k (b), INDEX i (c, a)) LIMIT 4;")
	l := loaded(t, c, data("1, 1, 7; 2, 2, 8; 3, 3, 7; 4, 4, 9"))
	wear(l)
	x := stmt(t, "UPDATE t SET a = CASE WHEN a = 1 THEN :x ELSE CASE WHEN a = 2 THEN :y ELSE :z END END, b = CASE WHEN b = 1 THEN :u ELSE CASE WHEN b = 2 THEN :v ELSE :w END END, c = c + 1 WHERE a < 4")
	var params []api.Col
	for _, name := range strings.Split("xyzuvw", "") {
		params = append(params, col(name, api.BigInt))
	}
	fine, twice := 0, 0
	key := func(n int) api.Value { return num(int64(1 + n%5)) }
	for i := range 125 {
		for k := i % 3; k < 125; k += 3 {
			args := api.Row{key(i), key(i / 5), key(i / 25), key(k), key(k / 5), key(k / 25)}
			if k%5 == 4 {
				args[3] = null()
			}
			got := agrees(t, c, l, api.Plan{Stmt: x, Access: []api.Access{{Key: i%4 - 1}}}, params, args)
			if t.Failed() {
				return
			}
			if got.why == api.OK {
				fine++
			} else if got.why == api.ErrTwice {
				twice++
			}
		}
	}
	if fine < 100 || twice < 2000 {
		t.Errorf("%d, %d", fine, twice)
	}
}

// P16.4: rows take each other's places in a table where no other keys are free: of BOOLEANs, and of all rows that there may be.
func TestNoOtherPlaces(t *testing.T) {
	c := made(t, "CREATE TABLE t (f BOOLEAN, g BOOLEAN NOT NULL, h BOOLEAN NOT NULL, PRIMARY KEY (f), UNIQUE kg (g), UNIQUE kh (h)) LIMIT 2;")
	l := loaded(t, c, data("TRUE, FALSE, TRUE; FALSE, TRUE, FALSE"))
	leaves(t, c, l, "UPDATE t SET f = NOT f", 2, "FALSE, FALSE, TRUE; TRUE, TRUE, FALSE")
	leaves(t, c, l, "UPDATE t SET g = NOT g", 2, "TRUE, TRUE, TRUE; FALSE, FALSE, FALSE")
	leaves(t, c, l, "UPDATE t SET g = NOT g, h = NOT h", 2, "TRUE, TRUE, FALSE; FALSE, FALSE, TRUE")
	leaves(t, c, l, "UPDATE t SET f = NOT f, h = NOT h", 2, "FALSE, FALSE, FALSE; TRUE, TRUE, TRUE")
	leaves(t, c, l, "UPDATE t SET f = NOT f, g = NOT g, h = NOT h", 2, "FALSE, TRUE, FALSE; TRUE, FALSE, TRUE")
	errs(t, c, l, "UPDATE t SET f = TRUE", api.ErrTwice)
	errs(t, c, l, "UPDATE t SET f = NOT f WHERE f", api.ErrTwice)
	errs(t, c, l, "UPDATE t SET f = NOT f, g = TRUE", api.ErrTwice)

	c = made(t, "CREATE TABLE t (a BIGINT, b BIGINT, PRIMARY KEY (a), UNIQUE k (b));")
	var big []api.Row
	for i := range int64(api.MaxRows) {
		big = append(big, api.Row{num(i), num(i * 5 % 4096)})
	}
	l = loaded(t, c, api.Data{big})
	for _, s := range []string{"UPDATE t SET a = a + 1", "UPDATE t SET a = a - 1, b = b + 1", "UPDATE t SET a = 4095 - a", "UPDATE t SET a = b, b = a", "UPDATE t SET b = a", "UPDATE t SET a = a + 1 WHERE a > 0", "UPDATE t SET a = a - 1 WHERE a > 0", "UPDATE t SET a = a / 2", "UPDATE t SET b = 4095 - b, a = 4095 - a WHERE a > 5 AND a < 4090", "DELETE FROM t", "DELETE FROM t WHERE a > 9", "INSERT INTO t (a) VALUES (5000)", "INSERT INTO t (a) VALUES (50)"} {
		does(t, c, l, stmt(t, s), nil, nil)
	}
}

// P16.4: an UPDATE of what its access goes by changes each row once.
func TestUpdateOfWhatIsGoneBy(t *testing.T) {
	c := made(t, "CREATE TABLE t (a BIGINT, b BIGINT, PRIMARY KEY (a), INDEX i (b, a)) PARTITION BY a; CREATE TABLE u (a BIGINT, b BIGINT, PRIMARY KEY (b), INDEX i (a));")
	l := loaded(t, c, data("1, 1; 2, 2; 3, 3; 4, 4", "1, 1; 2, 2; 3, 3; 4, 4"))
	leaves(t, c, l, "UPDATE t SET b = b + 1 WHERE b > 1", 3, "1, 1; 2, 3; 3, 4; 4, 5")
	leaves(t, c, l, "UPDATE t SET b = b + 1 WHERE b >= 2 AND b <= 3", 2, "1, 1; 2, 3; 3, 4; 4, 4")
	leaves(t, c, l, "UPDATE t SET b = 3 - b WHERE b = 1 AND a > 0", 1, "1, 2; 2, 2; 3, 3; 4, 4")
	leaves(t, c, l, "UPDATE t SET b = NULL WHERE b > 0 AND b < 9", 4, "1, NULL; 2, NULL; 3, NULL; 4, NULL")
	leaves(t, c, l, "UPDATE t SET b = b WHERE b > 0", 4, "1, 1; 2, 2; 3, 3; 4, 4")
	leaves(t, c, l, "UPDATE t SET b = 7 WHERE b = 9", 0, "1, 1; 2, 2; 3, 3; 4, 4")
	leaves(t, c, l, "DELETE FROM t WHERE b > 1 AND b < 4", 2, "1, 1; 4, 4")
	leaves(t, c, l, "DELETE FROM t", 4, "")
	leaves(t, c, l, "DELETE FROM t WHERE a > 9", 0, "1, 1; 2, 2; 3, 3; 4, 4")
	for _, s := range []string{"UPDATE u SET b = b + 1 WHERE b > 0", "UPDATE u SET b = b + 1 WHERE b > 2", "UPDATE u SET b = b + 2 WHERE b < 3", "UPDATE u SET b = b * 2, a = b WHERE a >= 1", "UPDATE u SET b = 5 - b WHERE b >= 1 AND b <= 4"} {
		all(t, c, l, s)
	}
}

// P16.2: in a table whose numbers come to their end, rows still take each other's places; no row comes any more, and that leaves all as it was.
func TestLastNumbers(t *testing.T) {
	c := made(t, "CREATE TABLE t (a BIGINT, b BIGINT, s VARCHAR(2), PRIMARY KEY (a), UNIQUE k (b));")
	kept := []api.Kept{{ID: 1, Row: rows("1, NULL, ''")[0]}, {ID: 7, Row: rows("2, 2, ''")[0]}, {ID: math.MaxUint64 - 2, Row: rows("3, NULL, ''")[0]}}
	x, why := table.Load(c.Tables()[0], kept, math.MaxUint64)
	if why != api.OK {
		t.Fatal(why)
	}
	l := []*table.Table{x}
	leaves(t, c, l, "UPDATE t SET s = 'x'", 3, "1, NULL, 'x'; 2, 2, 'x'; 3, NULL, 'x'")
	leaves(t, c, l, "UPDATE t SET a = a + 1", 3, "2, NULL, ''; 3, 2, ''; 4, NULL, ''")
	leaves(t, c, l, "UPDATE t SET a = 4 - a, s = 'y'", 3, "3, NULL, 'y'; 2, 2, 'y'; 1, NULL, 'y'")
	leaves(t, c, l, "UPDATE t SET a = a - 2, b = a", 3, "-1, 1, ''; 0, 2, ''; 1, 3, ''")
	leaves(t, c, l, "DELETE FROM t WHERE a > 1", 2, "1, NULL, ''")
	errs(t, c, l, "UPDATE t SET a = 2 WHERE a = 1", api.ErrTwice)
	errs(t, c, l, "UPDATE t SET b = 3", api.ErrTwice)
	errs(t, c, l, "INSERT INTO t (a) VALUES (3)", api.ErrTwice)
	before := stateOf(l)
	if got, why := exec.Do(c, l, stmt(t, "INSERT INTO t (a) VALUES (4)"), nil, nil); why != api.ErrFull || len(got) != 0 || stateOf(l) != before {
		t.Errorf("%v: %s", why, stateOf(l))
	}
	x, _ = table.Load(c.Tables()[0], kept, math.MaxUint64-1)
	b, _ := exec.New(c, []*table.Table{x})
	for i, want := range []api.Errno{api.OK, api.ErrFull, api.ErrFull} {
		if _, why := b.Run(stmt(t, fmt.Sprint("INSERT INTO t (a) VALUES (", 10+i, ")")), nil, nil); why != want {
			t.Errorf("%d: %v, not %v", i, why, want)
		}
	}
	if b.Back(0) != api.OK || !bag.Same(exec.Data(b.Tables()), data("1, NULL, ''; 2, 2, ''; 3, NULL, ''")) || x.Next() != math.MaxUint64-1 {
		t.Errorf("taken back: %s", stateOf(b.Tables()))
	}
}
