package detcheck_test

import (
	"fmt"
	"strings"
	"testing"

	"lockstep/api"
	"lockstep/catalog"
	"lockstep/detcheck"
)

// procIs asks what is wrong with a procedure, and at which step.
func procIs(t *testing.T, c *catalog.Catalog, name string, step int, why api.Errno) {
	t.Helper()
	if at, got := detcheck.Proc(c, name); at != step || got != why {
		t.Errorf("Proc of %s: %d %v, not %d %v", name, at, got, step, why)
	}
}

// allIs asks with which procedure of a catalog something is wrong.
func allIs(t *testing.T, c *catalog.Catalog, name string, step int, why api.Errno) {
	t.Helper()
	if who, at, got := detcheck.All(c); who != name || at != step || got != why {
		t.Errorf("All: %q %d %v, not %q %d %v", who, at, got, name, step, why)
	}
}

// P17.4: a name that there is none of.
func TestProcThatIsNone(t *testing.T) {
	c := made(t, tables+"CREATE PROCEDURE f () AS BEGIN SELECT a FROM t; END;")
	for _, name := range []string{"", "g", "F", "t", "\xff", "ff", strings.Repeat("f", 33)} {
		procIs(t, c, name, 0, api.ErrName)
	}
	procIs(t, c, "f", 0, api.ErrOrder)
	procIs(t, made(t, tables), "t", 0, api.ErrName)
}

// The steps of procedures: whether a statement is settled, and whether it stays in p's partition.
const (
	good = "SELECT b FROM t WHERE a = :p"
	open = "SELECT b FROM t WHERE a = :p AND a = b OR FALSE" // of all partitions, too
	here = "SELECT v FROM r"                                 // open, but it stays
	away = "SELECT COUNT(*) FROM t"                          // settled, but it leaves
	stop = "ABORT 'no' IF :p > 1"
)

func proc(name, part string, steps ...string) string {
	if part != "" {
		part = " PARTITION BY " + part
	}
	return fmt.Sprintf("CREATE PROCEDURE %s (o VARCHAR(3), p BIGINT, q DECIMAL)%s AS BEGIN %s; END;\n", name, part, strings.Join(steps, "; "))
}

// P17.4: the first step with which something is wrong, ErrOrder ahead of ErrRoute at the same one; steps that abort count.
func TestSteps(t *testing.T) {
	for _, x := range []struct {
		part  string
		steps []string
		step  int
		why   api.Errno
	}{
		{"p", []string{good}, 0, api.OK},
		{"p", []string{stop}, 0, api.OK},
		{"", []string{stop, stop}, 0, api.OK},
		{"p", []string{good, stop, good}, 0, api.OK},
		{"p", []string{open}, 0, api.ErrOrder},
		{"p", []string{here}, 0, api.ErrOrder},
		{"p", []string{away}, 0, api.ErrRoute},
		{"", []string{open}, 0, api.ErrOrder},
		{"", []string{here}, 0, api.ErrOrder},
		{"", []string{away}, 0, api.OK},
		{"", []string{away, "DELETE FROM t", "INSERT INTO r (k) VALUES (1)", "UPDATE r SET v = 1"}, 0, api.OK},
		{"p", []string{good, good, open}, 2, api.ErrOrder},
		{"p", []string{good, stop, away}, 2, api.ErrRoute},
		{"p", []string{stop, away, open}, 1, api.ErrRoute},
		{"p", []string{stop, here, away}, 1, api.ErrOrder},
		{"p", []string{away, here}, 0, api.ErrRoute},
		{"", []string{away, here}, 1, api.ErrOrder},
		{"", []string{away, good, stop, open, here}, 3, api.ErrOrder},
		{"p", []string{"DELETE FROM t WHERE a = :p", "DELETE FROM t"}, 1, api.ErrRoute},
		{"p", []string{"INSERT INTO t (a) VALUES (:p)", "INSERT INTO t (a) VALUES (:p + 1)"}, 1, api.ErrRoute},
		{"p", []string{"UPDATE t SET b = 1 WHERE :p = a", "UPDATE r SET v = 1 WHERE k = :p"}, 1, api.ErrRoute},
		// Of a Let, too: what it becomes is a parameter, but not the one by which it goes.
		{"p", []string{"LET n = SELECT b FROM t WHERE a = :p", good}, 0, api.OK},
		{"p", []string{"LET n = SELECT b FROM t WHERE a = 1 ORDER BY b"}, 0, api.ErrRoute},
		{"p", []string{"LET n = SELECT b FROM t WHERE a > :p ORDER BY b"}, 0, api.ErrOrder},
		{"p", []string{good, "LET n = SELECT COUNT(*) FROM t"}, 1, api.ErrRoute},
		{"", []string{good, "LET n = SELECT COUNT(*) FROM t"}, 0, api.OK},
		{"", []string{good, "LET n = SELECT b FROM t"}, 1, api.ErrOrder},
		{"p", []string{good, "LET n = SELECT v FROM r"}, 1, api.ErrOrder},
		{"p", []string{"LET n = SELECT MAX(v) FROM r", "SELECT b FROM t WHERE a = :n"}, 1, api.ErrRoute},
		{"", []string{"LET n = SELECT MAX(v) FROM r", "SELECT b FROM t WHERE a = :n"}, 0, api.OK},
		{"p", []string{"LET n = SELECT MAX(v) FROM r", "SELECT b FROM t WHERE b = :n AND a = :p"}, 0, api.OK},
		{"p", []string{"LET n = SELECT MAX(s) FROM t WHERE a = :p", "LET m = SELECT f FROM t WHERE a = :p AND s = :n", "ABORT 'x' IF :m", good, away}, 4, api.ErrRoute},
		// By a parameter of another type, of another place.
		{"q", []string{"SELECT b FROM t WHERE a = :q"}, 0, api.ErrRoute},
		{"q", []string{"SELECT v FROM r WHERE k = :q"}, 0, api.OK},
		{"q", []string{"SELECT b FROM t WHERE a = :p"}, 0, api.ErrRoute},
		{"o", []string{"SELECT b FROM t WHERE a = :p"}, 0, api.ErrRoute},
		{"o", []string{"SELECT MAX(s) FROM y WHERE s = :o", "INSERT INTO y (s) VALUES (:o)", "DELETE FROM y"}, 2, api.ErrRoute},
		{"q", []string{"SELECT MAX(d) FROM w WHERE d = :q", "DELETE FROM w WHERE d = :p"}, 1, api.ErrRoute},
	} {
		c := made(t, tables+"CREATE TABLE y (s VARCHAR(3), PRIMARY KEY (s)) PARTITION BY s; CREATE TABLE w (d DECIMAL, PRIMARY KEY (d)) PARTITION BY d;\n"+proc("f", x.part, x.steps...))
		procIs(t, c, "f", x.step, x.why)
		if x.why == api.OK {
			allIs(t, c, "", 0, api.OK)
		} else {
			allIs(t, c, "f", x.step, x.why)
		}
		if t.Failed() {
			t.Fatal(x)
		}
	}
}

// P17.4: each kind of step at each of four places, in procedures that are partitioned and that are not.
func TestAllSteps(t *testing.T) {
	kinds := []string{good, open, here, away, stop, "LET n = " + good, "LET n = " + open, "LET n = " + here, "LET n = " + away}
	whys := []api.Errno{api.OK, api.ErrOrder, api.ErrOrder, api.ErrRoute, api.OK, api.OK, api.ErrOrder, api.ErrOrder, api.ErrRoute}
	for n := range len(kinds) * len(kinds) * len(kinds) {
		for _, part := range []string{"", "p"} {
			var steps []string
			step, want := 0, api.OK
			for i := range 3 {
				kind := n / []int{1, 9, 81}[i] % 9
				steps = append(steps, strings.Replace(kinds[kind], "LET n", fmt.Sprint("LET n", i), 1))
				if why := whys[kind]; want == api.OK && why != api.OK && (why != api.ErrRoute || part != "") {
					step, want = i, why
				}
			}
			procIs(t, made(t, tables+proc("f", part, steps...)), "f", step, want)
		}
	}
}

// P17.4: of several procedures the first one, by its name, with which something is wrong, wherever it was declared.
func TestAll(t *testing.T) {
	allIs(t, made(t, ""), "", 0, api.OK)
	allIs(t, made(t, tables), "", 0, api.OK)
	allIs(t, made(t, tables+proc("a", "p", good)+proc("b", "", away)), "", 0, api.OK)
	allIs(t, made(t, tables+proc("a", "p", good)+proc("b", "p", stop, away)), "b", 1, api.ErrRoute)
	allIs(t, made(t, tables+proc("b", "p", stop, away)+proc("a", "p", good)), "b", 1, api.ErrRoute)
	allIs(t, made(t, tables+proc("c", "p", open)+proc("b", "p", good, good, here)+proc("a", "", away)), "b", 2, api.ErrOrder)
	allIs(t, made(t, tables+proc("a", "p", good, open)+proc("b", "p", away)), "a", 1, api.ErrOrder)
	names := []string{"a", "b", "\"B\"", "ab", "aa", "z", "\"é\""}
	for i := range names {
		for j := range names {
			var s string
			for k, name := range names {
				switch k {
				case i:
					s += proc(name, "p", good, away)
				case j:
					s += proc(name, "", here)
				default:
					s += proc(name, "p", good)
				}
			}
			one, two := strings.Trim(names[i], "\""), strings.Trim(names[j], "\"")
			c := made(t, tables+s)
			if one <= two {
				allIs(t, c, one, 1, api.ErrRoute)
			} else {
				allIs(t, c, two, 0, api.ErrOrder)
			}
			procIs(t, c, one, 1, api.ErrRoute)
			if i != j {
				procIs(t, c, two, 0, api.ErrOrder)
			}
		}
	}
}

// P17.4: as many steps and procedures as there may be.
func TestManyProcs(t *testing.T) {
	steps := strings.Split(strings.Repeat(good+"\n", api.MaxSteps-1)+away, "\n")
	s := "CREATE TABLE t (a BIGINT, b BIGINT, PRIMARY KEY (a)) PARTITION BY a;\n"
	for i := range 40 {
		part := ""
		if i == 39 {
			part = "p"
		}
		s += proc(fmt.Sprintf("f%02d", i), part, steps[:len(steps)-31*(39-i)/39]...)
	}
	c := made(t, s)
	allIs(t, c, "f39", 31, api.ErrRoute)
	procIs(t, c, "f00", 0, api.OK)
	procIs(t, c, "f39", 31, api.ErrRoute)
}
