package proc_test

import (
	"errors"
	"fmt"
	"slices"
	"strings"
	"testing"

	"lockstep/api"
	"lockstep/bag"
	"lockstep/catalog"
	"lockstep/proc"
)

// move is the chapter's example.
const move = `CREATE PROCEDURE move (a BIGINT, b BIGINT, n BIGINT) AS BEGIN
	UPDATE acc SET bal = bal - :n WHERE id = :a;
	LET x = SELECT bal FROM acc WHERE id = :a;
	ABORT 'poor' IF :x < 0;
	UPDATE acc SET bal = bal + :n WHERE id = :b;
	SELECT id, bal FROM acc ORDER BY id;
END;
`

// P19.1: the chapter's example; Step counts all steps, Answers those of Run steps alone.
func TestMove(t *testing.T) {
	c := made(t, tables+move)
	behind := held()
	behind[0] = rows("1, 2; 2, 3; 3, NULL")
	runs(t, c, "move", api.Row{num(1), num(2), num(3)}, outcome("1", "1", "1, 2; 2, 3; 3, NULL"), behind)
	behind[0] = rows("1, 0; 2, 5; 3, NULL")
	runs(t, c, "move", api.Row{num(1), num(2), num(5)}, outcome("1", "1", "1, 0; 2, 5; 3, NULL"), behind)
	runs(t, c, "move", api.Row{num(1), num(2), num(6)}, aborts(2, "poor"), nil)
	runs(t, c, "move", api.Row{num(2), num(1), num(1)}, aborts(2, "poor"), nil)
	runs(t, c, "move", api.Row{num(9), num(1), num(1)}, fails(api.ErrOne, 1), nil)
	// What is not known is not below nought, and stays unknown.
	behind[0] = rows("1, 6; 2, 0; 3, NULL")
	runs(t, c, "move", api.Row{num(3), num(1), num(1)}, outcome("1", "1", "1, 6; 2, 0; 3, NULL"), behind)
	// To nobody.
	behind[0] = rows("1, 4; 2, 0; 3, NULL")
	runs(t, c, "move", api.Row{num(1), num(9), num(1)}, outcome("1", "0", "1, 4; 2, 0; 3, NULL"), behind)
	runs(t, c, "move", api.Row{num(2), num(1), num(-1 << 63)}, fails(api.ErrOver, 0), nil)
	runs(t, c, "move", api.Row{num(1), num(1), null()}, outcome("1", "1", "1, NULL; 2, 0; 3, NULL"), data("1, NULL; 2, 0; 3, NULL", told(held()[1])))
}

// P19.1: ErrArg of no catalog, of no base, of neither, ahead of all else.
func TestNone(t *testing.T) {
	c := made(t, tables+move)
	args := api.Row{num(1), num(2), num(3)}
	for _, name := range []string{"move", "none", ""} {
		for _, args := range []api.Row{args, nil, {num(1)}} {
			refuses(t, nil, name, args, api.ErrArg)
			for _, c := range []*catalog.Catalog{c, nil} {
				if o, why := proc.Run(c, nil, name, args); why != api.ErrArg || show(o) != show(api.Outcome{}) {
					t.Errorf("%s: %v %v", name, o, why)
				}
			}
		}
	}
}

// P19.1: Bind's errors: nothing is asked of the base.
func TestBindErrors(t *testing.T) {
	c := made(t, tables+
		procText("f", "p BIGINT, q DECIMAL, r VARCHAR(2), b BOOLEAN", "INSERT INTO u (a, d, s, f) VALUES (:p, :q, :r, :b)")+
		procText("none", "", "SELECT id FROM acc ORDER BY id")+
		"CREATE PROCEDURE g (p BIGINT) PARTITION BY p AS BEGIN INSERT INTO acc (id) VALUES (:p); END;")
	good := api.Row{num(3), dec(5), text("y"), truth(0)}
	for _, name := range []string{"", "F", "ff", "acc", "u", "f ", "\xff", strings.Repeat("f", 99)} {
		refuses(t, c, name, good, api.ErrName)
		refuses(t, c, name, nil, api.ErrName)
	}
	for _, args := range []api.Row{nil, {}, good[:3], append(slices.Clone(good), null())} {
		refuses(t, c, "f", args, api.ErrArgs)
	}
	refuses(t, c, "none", good[:1], api.ErrArgs)
	refuses(t, c, "g", api.Row{null()}, api.ErrArgs)
	refuses(t, c, "g", api.Row{text("x")}, api.ErrType)
	for _, x := range []struct {
		at  int
		v   api.Value
		why api.Errno
	}{
		{0, dec(1), api.ErrType}, {0, text("1"), api.ErrType}, {0, truth(1), api.ErrType}, {0, api.Value{Type: 9}, api.ErrArg}, {0, text("\xff"), api.ErrForm},
		{1, text("1"), api.ErrType}, {1, num(1 << 62), api.ErrOver}, {1, api.Value{Type: -1}, api.ErrArg},
		{2, num(1), api.ErrType}, {2, text("xyz"), api.ErrLong}, {2, text("é!"), api.ErrLong}, {2, text("\xc3"), api.ErrForm}, {2, text(strings.Repeat("x", api.MaxText+1)), api.ErrLong},
		{3, num(1), api.ErrType}, {3, truth(2), api.ErrArg},
	} {
		args := slices.Clone(good)
		args[x.at] = x.v
		refuses(t, c, "f", args, x.why)
	}
	behind := held()
	behind[1] = append(behind[1], good)
	runs(t, c, "f", good, outcome("1"), behind)
	// A BIGINT is as good as a DECIMAL.
	behind[1][2] = api.Row{num(3), dec(70000), text("y"), null()}
	runs(t, c, "f", api.Row{num(3), num(7), text("y"), null()}, outcome("1"), behind)
}

// P19.1: what a base is asked: each statement as it was declared, beside the parameters as Bind made them, behind these the Lets done ahead, in their order.
func TestAsked(t *testing.T) {
	c := made(t, tables+procText("f", "p DECIMAL, r VARCHAR(9), n BIGINT, b BOOLEAN",
		"SELECT :p, :n FROM acc",
		"LET x = SELECT MAX(id) FROM acc",
		"INSERT INTO acc (id) VALUES (:x + 7)",
		"LET y = SELECT :r || 'z' FROM acc WHERE id = 10",
		"ABORT 'no' IF :y = 'z'",
		"LET z = SELECT d FROM u WHERE a = :x - 1",
		"LET g = SELECT f FROM u WHERE s = :r AND f = :b",
		"DELETE FROM u WHERE s = :r OR d = :z OR f AND :g",
		"UPDATE u SET s = :y, d = :p"))
	b := &spy{under: over(t, c, held())}
	o, why := proc.Run(c, b, "f", api.Row{num(2), {Type: api.Text, Int: 9, Text: "x"}, {Int: 7, Text: "junk"}, truth(1)})
	want := outcome("2.0, NULL; 2.0, NULL; 2.0, NULL", "1", "1", "1")
	if why != api.OK || show(o) != show(want) {
		t.Errorf("%s %v, not %s", show(o), why, show(want))
	}
	const ps, as = "[{Of: Name:p Type:2} {Of: Name:r Type:3} {Of: Name:n Type:1} {Of: Name:b Type:4}", "2.0, 'x', NULL, TRUE"
	said := []string{"mark"}
	for _, x := range [][3]string{
		{"SELECT :p, :n FROM acc", "", ""},
		{"SELECT MAX(id) FROM acc", "", ""},
		{"INSERT INTO acc (id) VALUES (:x + 7)", " {Of: Name:x Type:1}", ", 3"},
		{"SELECT :r || 'z' FROM acc WHERE id = 10", " {Of: Name:x Type:1}", ", 3"},
		{"SELECT d FROM u WHERE a = :x - 1", " {Of: Name:x Type:1} {Of: Name:y Type:3}", ", 3, 'xz'"},
		{"SELECT f FROM u WHERE s = :r AND f = :b", " {Of: Name:x Type:1} {Of: Name:y Type:3} {Of: Name:z Type:2}", ", 3, 'xz', NULL"},
		{"DELETE FROM u WHERE s = :r OR d = :z OR f AND :g", " {Of: Name:x Type:1} {Of: Name:y Type:3} {Of: Name:z Type:2} {Of: Name:g Type:4}", ", 3, 'xz', NULL, TRUE"},
		{"UPDATE u SET s = :y, d = :p", " {Of: Name:x Type:1} {Of: Name:y Type:3} {Of: Name:z Type:2} {Of: Name:g Type:4}", ", 3, 'xz', NULL, TRUE"},
	} {
		said = append(said, printed(stmt(t, x[0]))+" | "+strings.NewReplacer("Of:", "", "Name:", "", "Type:", "").Replace(ps+x[1]+"]")+" | "+as+x[2])
	}
	if show(b.calls) != show(said) {
		t.Errorf("it was asked\n%s\nnot\n%s", strings.Join(b.calls, "\n"), strings.Join(said, "\n"))
	}
}

// P19.1: a statement goes to the base as the catalog tells it, its places too, beside none, if there are none.
func TestAskedAsDeclared(t *testing.T) {
	c := made(t, tables+move+procText("f", "", "SELECT 1 FROM acc", "LET x = SELECT 2 FROM acc WHERE id = 1", "DELETE FROM acc WHERE id = :x"))
	for name, args := range map[string]api.Row{"move": {num(1), num(2), num(1)}, "f": nil} {
		p, _ := c.Proc(name)
		var want []api.Stmt
		for _, s := range p.Steps {
			if s.Kind != api.Abort {
				want = append(want, s.Stmt)
			}
		}
		b := &spy{under: over(t, c, held())}
		b.run = func(no int, x api.Stmt, params []api.Col, got api.Row) ([]api.Row, api.Errno) {
			if show(x) != show(want[no]) || len(params) != len(got) || len(got) < len(args) {
				t.Errorf("%s: %s beside %v, %v", name, show(x), params, got)
			}
			return nil, api.OK
		}
		if o, why := proc.Run(c, b, name, args); why != api.OK || o.Err != api.OK || b.ran != len(want) {
			t.Error(name, o, why, b.ran)
		}
	}
}

// P19.1: a procedure of no step can't be declared, so there is none of that name; of one step it may be of each kind.
func TestFewSteps(t *testing.T) {
	if c, _, why := catalog.New([]api.Decl{{Proc: api.Proc{Name: "f"}}}); why != api.ErrArg {
		t.Error("a procedure of no step", why)
		refuses(t, c, "f", nil, api.ErrName)
	}
	refuses(t, made(t, tables), "f", nil, api.ErrName)
	for s, want := range map[string]api.Outcome{
		"SELECT id FROM acc WHERE id > 1 ORDER BY id":     outcome("2; 3"),
		"SELECT id FROM acc WHERE id > 9":                 outcome(""),
		"LET x = SELECT COUNT(*) FROM acc":                {},
		"LET x = SELECT id FROM acc":                      fails(api.ErrOne, 0),
		"LET x = SELECT id FROM acc WHERE id > 9":         fails(api.ErrOne, 0),
		"ABORT 'it''s' IF TRUE":                           aborts(0, "it's"),
		"ABORT '' IF TRUE":                                aborts(0, ""),
		"ABORT 'x' IF FALSE":                              {},
		"ABORT 'x' IF NULL":                               {},
		"ABORT 'x' IF 1 / 0 = 1":                          fails(api.ErrZero, 0),
		"SELECT 1 / 0 FROM acc":                           fails(api.ErrZero, 0),
		"INSERT INTO acc (id) VALUES (1)":                 fails(api.ErrTwice, 0),
		"INSERT INTO acc (bal) VALUES (1)":                fails(api.ErrNull, 0),
		"UPDATE u SET s = 'long'":                         fails(api.ErrLong, 0),
		"DELETE FROM u WHERE CAST('x' AS BIGINT) = 1":     fails(api.ErrForm, 0),
		"UPDATE u SET d = 922337203685477 + 0.5 + a * 99": fails(api.ErrOver, 0),
	} {
		runs(t, proced(t, s), "f", nil, want, held())
	}
	behind := held()
	behind[1] = nil
	runs(t, proced(t, "DELETE FROM u"), "f", nil, outcome("2"), behind)
}

// P19.1: Let: the value of the one row, ErrOne of no row, and of more; NULL is a value, of the column's type.
func TestLet(t *testing.T) {
	all := "SELECT :x FROM acc WHERE id = 1"
	for _, x := range []struct {
		let  string
		want api.Outcome
	}{
		{"SELECT bal FROM acc WHERE id = 1", outcome("5")},
		{"SELECT bal FROM acc WHERE id = 3", outcome("NULL")},
		{"SELECT bal FROM acc WHERE id = 9", fails(api.ErrOne, 0)},
		{"SELECT bal FROM acc WHERE id < 3", fails(api.ErrOne, 0)},
		{"SELECT bal FROM acc", fails(api.ErrOne, 0)},
		{"SELECT 7 FROM acc", fails(api.ErrOne, 0)},
		{"SELECT DISTINCT 7 FROM acc", outcome("7")},
		{"SELECT id FROM acc ORDER BY id DESC LIMIT 1", outcome("3")},
		{"SELECT id FROM acc ORDER BY id DESC LIMIT 0", fails(api.ErrOne, 0)},
		{"SELECT COUNT(*) FROM acc", outcome("3")},
		{"SELECT SUM(bal) FROM acc WHERE id = 3", outcome("NULL")},
		{"SELECT AVG(bal) FROM acc", outcome("2.5")},
		{"SELECT bal FROM acc GROUP BY bal", fails(api.ErrOne, 0)},
		{"SELECT d FROM u WHERE a = 1", outcome("1.5")},
		{"SELECT s FROM u WHERE a = 1", outcome("'x'")},
		{"SELECT f FROM u WHERE a = 1", outcome("TRUE")},
		{"SELECT d FROM u WHERE a = 2", outcome("NULL")},
		{"SELECT 1 / 0 FROM u", fails(api.ErrZero, 0)},
	} {
		runs(t, proced(t, "LET x = "+x.let, all), "f", nil, x.want, held())
	}
	// What NULL is of can be reckoned with, as what else there would have been.
	runs(t, proced(t, "LET x = SELECT s FROM u WHERE a = 2", "SELECT :x || 'y', :x IS NULL FROM acc WHERE id = 1"), "f", nil, outcome("NULL, TRUE"), held())
	runs(t, proced(t, "LET x = SELECT d FROM u WHERE a = 2", "LET y = SELECT COALESCE(:x, 1) FROM acc WHERE id = 1", "SELECT :y FROM acc WHERE id = 1"), "f", nil, outcome("1.0"), held())
}

// P19.1: several Lets, each of which is asked by steps behind it, at every distance; what is done between them is seen.
func TestLets(t *testing.T) {
	c := made(t, tables+procText("f", "n BIGINT",
		"LET x = SELECT COUNT(*) FROM acc",
		"INSERT INTO acc (id, bal) VALUES (:x + :n, :x)",
		"LET y = SELECT COUNT(*) FROM acc",
		"ABORT 'two' IF :y <> :x + 1",
		"LET z = SELECT :x * 100 + :y FROM acc WHERE id = :x + :n",
		"DELETE FROM acc WHERE id = :n",
		"LET w = SELECT COUNT(*) FROM acc WHERE id < :z GROUP BY bal HAVING FALSE",
		"SELECT 1 FROM acc"))
	if _, _, why := catalog.Load(tables + procText("f", "", "SELECT :x FROM acc", "LET x = SELECT 1 FROM acc")); why != api.ErrParam {
		t.Error("a Let that is asked ahead", why)
	}
	runs(t, c, "f", api.Row{num(1)}, fails(api.ErrOne, 6), nil)
	c = made(t, tables+procText("f", "n BIGINT",
		"LET x = SELECT COUNT(*) FROM acc",
		"INSERT INTO acc (id, bal) VALUES (:x + :n, :x)",
		"LET y = SELECT COUNT(*) FROM acc",
		"ABORT 'two' IF :y <> :x + 1",
		"LET z = SELECT :x * 100 + :y FROM acc WHERE id = :x + :n",
		"DELETE FROM acc WHERE id = :n",
		"LET w = SELECT COUNT(*) FROM acc",
		"ABORT 'three' IF :w <> :y - 1 OR :z <> 304 OR :x <> 3",
		"SELECT :w, :z, :y, :x, :n FROM acc WHERE id = 2"))
	behind := held()
	behind[0] = rows("2, 0; 3, NULL; 4, 3")
	runs(t, c, "f", api.Row{num(1)}, outcome("1", "1", "3, 304, 4, 3, 1"), behind)
	runs(t, c, "f", api.Row{num(0)}, fails(api.ErrTwice, 1), nil)
	runs(t, c, "f", api.Row{num(9)}, aborts(7, "three"), nil)
	runs(t, c, "f", api.Row{null()}, fails(api.ErrNull, 1), nil)
}

// P19.1: Abort: TRUE alone gives up, with its own text; FALSE and NULL go on, an error is one.
func TestAbort(t *testing.T) {
	args := []struct {
		v    api.Value
		want api.Outcome
	}{
		{truth(1), aborts(2, "one")},
		{truth(0), outcome("1", "1")},
		{null(), outcome("1", "1")},
	}
	for _, at := range []string{":b", ":b AND TRUE", ":b OR FALSE", "NOT NOT :b", ":b = TRUE", "CASE WHEN :b THEN TRUE ELSE :b END"} {
		c := made(t, tables+procText("f", "b BOOLEAN", "UPDATE acc SET bal = 7 WHERE id = 1", "LET x = SELECT bal FROM acc WHERE id = 1", "ABORT 'one' IF "+at, "ABORT 'two' IF :x <> 7", "DELETE FROM acc WHERE id = 2"))
		for _, x := range args {
			behind := held()
			behind[0] = rows("1, 7; 3, NULL")
			runs(t, c, "f", api.Row{x.v}, x.want, behind)
		}
	}
	c := made(t, tables+procText("f", "n BIGINT", "DELETE FROM acc", "ABORT 'a' IF 1 / :n > 1", "ABORT 'b' IF :n + 9223372036854775807 < 0", "ABORT 'c' IF :n = -1", "ABORT 'd' IF :n = -2"))
	behind := held()
	behind[0] = nil
	for n, want := range map[int64]api.Outcome{0: fails(api.ErrZero, 1), 1: fails(api.ErrOver, 2), -1: aborts(3, "c"), -2: aborts(4, "d"), -3: outcome("3")} {
		runs(t, c, "f", api.Row{num(n)}, want, behind)
	}
	runs(t, c, "f", api.Row{null()}, outcome("3"), behind)
}

// P19.1: a statement that errs, of each kind, at each place of several steps: no Answers, its Err, its Step, no Text; nothing behind it is done.
func TestStepErrs(t *testing.T) {
	good := []string{"UPDATE acc SET bal = COALESCE(bal, 0) + 1", "LET x# = SELECT COUNT(*) FROM acc", "ABORT 'no' IF FALSE", "DELETE FROM u WHERE a = 2", "SELECT id FROM acc ORDER BY id", "INSERT INTO u (a) VALUES (#)"}
	for bad, why := range map[string]api.Errno{
		"UPDATE acc SET bal = 1 / (id - 2)":            api.ErrZero,
		"INSERT INTO acc (id) VALUES (3)":              api.ErrTwice,
		"DELETE FROM acc WHERE 1 / (id - 2) = 1":       api.ErrZero,
		"SELECT id + 9223372036854775807 FROM acc":     api.ErrOver,
		"LET bad = SELECT id FROM acc":                 api.ErrOne,
		"LET bad = SELECT 1 / 0 FROM acc WHERE id = 1": api.ErrZero,
		"ABORT 'bad' IF TRUE":                          api.ErrAbort,
		"ABORT 'bad' IF CAST('x' AS BOOLEAN)":          api.ErrForm,
		"UPDATE acc SET id = NULL WHERE id = 3":        api.ErrNull,
		"INSERT INTO u (a, s) VALUES (9, 'long')":      api.ErrLong,
		"UPDATE u SET s = 'x'":                         api.ErrTwice,
	} {
		for at := range len(good) + 1 {
			var steps []string
			for i, s := range slices.Insert(slices.Clone(good), at, bad) {
				steps = append(steps, strings.ReplaceAll(s, "#", fmt.Sprint(i+20)))
			}
			if why == api.ErrTwice && at > 3 && strings.HasPrefix(bad, "UPDATE") {
				continue // of the two rows one is gone
			}
			want := fails(why, at)
			if why == api.ErrAbort {
				want.Text = "bad"
			}
			runs(t, proced(t, steps...), "f", nil, want, nil)
			b := &spy{under: over(t, proced(t, steps...), held()), isQuiet: true}
			proc.Run(proced(t, steps...), b, "f", nil)
			if ran := strings.Count(strings.Join(b.calls, " "), "run"); ran > at+1 || b.calls[0] != "mark" || b.calls[len(b.calls)-1] != "back 0" {
				t.Errorf("%s at %d: %q", bad, at, b.calls)
			}
		}
	}
}

// P19.1: as many steps as there may be.
func TestManySteps(t *testing.T) {
	var steps []string
	for i := range api.MaxSteps - 1 {
		steps = append(steps, fmt.Sprintf("UPDATE acc SET bal = %d WHERE id = 1", i))
	}
	last := "SELECT bal FROM acc WHERE id = 1"
	o, why := proc.Run(proced(t, append(steps, last)...), over(t, made(t, tables), held()), "f", nil)
	if why != api.OK || len(o.Answers) != api.MaxSteps || told(o.Answers[31]) != "30" || told(o.Answers[0]) != "1" {
		t.Error(show(o), why)
	}
	runs(t, proced(t, append(steps, "ABORT 'last' IF TRUE")...), "f", nil, aborts(api.MaxSteps-1, "last"), nil)
	// All but the last one are Lets, each of which stands behind the one ahead.
	steps = []string{"LET x0 = SELECT id FROM acc WHERE id = 1"}
	for i := 1; i < api.MaxSteps-1; i++ {
		steps = append(steps, fmt.Sprintf("LET x%d = SELECT id + :x%d FROM acc WHERE id = 1", i, i-1))
	}
	runs(t, proced(t, append(steps, "SELECT :x0, :x1, :x30 FROM acc WHERE id = 1")...), "f", nil, outcome("1, 2, 31"), held())
}

// P19.1: Back is called of just the Mark that was told ahead of the first step, if a step errs, also if nothing has changed; else not at all.
func TestMarkAndBack(t *testing.T) {
	for _, mark := range []int{0, 1, 7, -3, 1 << 40} {
		for _, x := range []struct {
			steps []string
			want  string
		}{
			{[]string{"SELECT 1 FROM acc", "DELETE FROM acc"}, "mark run run"},
			{[]string{"ABORT 'x' IF FALSE"}, "mark"},
			{[]string{"ABORT 'x' IF TRUE"}, "mark back #"},
			{[]string{"ABORT 'x' IF 1 / 0 = 1", "DELETE FROM acc"}, "mark back #"},
			{[]string{"LET x = SELECT 1 FROM acc", "DELETE FROM acc"}, "mark run back #"},
			{[]string{"SELECT 1 FROM acc", "ABORT 'x' IF TRUE"}, "mark run back #"},
			{[]string{"DELETE FROM acc", "DELETE FROM u", "ABORT 'x' IF TRUE", "DELETE FROM u"}, "mark run run back #"},
		} {
			c := proced(t, x.steps...)
			b := &spy{mark: mark, isQuiet: true}
			b.run = func(int, api.Stmt, []api.Col, api.Row) ([]api.Row, api.Errno) {
				b.mark += 5 // what Mark would tell from now on
				return nil, api.OK
			}
			if _, why := proc.Run(c, b, "f", nil); why != api.OK {
				t.Error(x.steps, why)
			}
			if got, want := strings.Join(b.calls, " "), strings.ReplaceAll(x.want, "#", fmt.Sprint(mark)); got != want {
				t.Errorf("%q: %s, not %s", x.steps, got, want)
			}
		}
	}
}

// P19.1: whatever error a base answers is the step's, and has no Text, whatever rows stand beside it.
func TestBaseErrs(t *testing.T) {
	c := proced(t, "DELETE FROM acc", "LET x = SELECT 1 FROM acc", "ABORT 'no' IF :x = 2", "SELECT :x FROM acc")
	for _, why := range []api.Errno{api.ErrArg, api.ErrOne, api.ErrPanic, api.ErrAbort, api.ErrFull, api.ErrState, -1, 999} {
		for at, step := range []int{0, 1, 3} {
			b := &spy{mark: 4, isQuiet: true}
			b.run = func(no int, x api.Stmt, _ []api.Col, _ api.Row) ([]api.Row, api.Errno) {
				if no == at {
					return rows("7; 8"), why
				}
				return rows("1"), api.OK
			}
			o, wrong := proc.Run(c, b, "f", nil)
			if wrong != api.OK || show(o) != show(fails(why, step)) || b.ran != at+1 || b.calls[len(b.calls)-1] != "back 4" {
				t.Errorf("%v at %d: %s %v %q", why, at, show(o), wrong, b.calls)
			}
			// If Back errs, that is Run's.
			for _, more := range []api.Errno{api.ErrArg, api.ErrState, why, 999} {
				b := &spy{run: b.run, isQuiet: true, atBack: func() api.Errno { return more }}
				if o, wrong := proc.Run(c, b, "f", nil); wrong != more || show(o) != show(api.Outcome{}) {
					t.Errorf("%v at %d, then %v: %s %v", why, at, more, show(o), wrong)
				}
			}
		}
	}
	b := &spy{atBack: func() api.Errno { return api.ErrState }}
	if o, why := proc.Run(proced(t, "ABORT 'x' IF TRUE"), b, "f", nil); why != api.ErrState || show(o) != show(api.Outcome{}) {
		t.Error(o, why)
	}
	if o, why := proc.Run(proced(t, "ABORT 'x' IF FALSE"), b, "f", nil); why != api.OK || show(o) != show(api.Outcome{}) {
		t.Error(o, why)
	}
}

// P19.1: of a Let a base's answer of other than one row, or of a row of other than one value, is ErrOne.
func TestLetOfBase(t *testing.T) {
	c := proced(t, "LET x = SELECT 1 FROM acc", "SELECT :x FROM acc")
	for _, x := range []struct {
		rows []api.Row
		want api.Outcome
	}{
		{nil, fails(api.ErrOne, 0)}, {[]api.Row{}, fails(api.ErrOne, 0)}, {rows("1; 1"), fails(api.ErrOne, 0)}, {rows("1; 2; 3"), fails(api.ErrOne, 0)},
		{[]api.Row{{}}, fails(api.ErrOne, 0)}, {[]api.Row{nil}, fails(api.ErrOne, 0)}, {rows("1, 2"), fails(api.ErrOne, 0)},
		{rows("8"), outcome("9")}, {rows("NULL"), outcome("9")}, {[]api.Row{{{Type: api.BigInt, Int: 8, Text: "junk"}}}, outcome("9")},
	} {
		var let api.Row
		b := &spy{run: func(no int, _ api.Stmt, _ []api.Col, args api.Row) ([]api.Row, api.Errno) {
			if no == 0 {
				return x.rows, api.OK
			}
			let = args
			return rows("9"), api.OK
		}}
		if o, why := proc.Run(c, b, "f", nil); why != api.OK || show(o) != show(x.want) {
			t.Errorf("%v: %s %v", x.rows, show(o), why)
		}
		if x.want.Err == api.OK && (len(let) != 1 || let[0].Type != x.rows[0][0].Type || let[0].Int != x.rows[0][0].Int || let[0].Text != "") {
			t.Errorf("%v: the Let is %v", x.rows, let)
		}
	}
}

// P19.1: ErrPanic of a base that panics, whatever with, wherever: and no outcome; what was done ahead is taken back.
func TestPanics(t *testing.T) {
	c := proced(t, "DELETE FROM acc", "LET x = SELECT COUNT(*) FROM u", "ABORT 'no' IF :x = 1", "UPDATE u SET f = FALSE")
	var nobody *spy
	for _, with := range []any{"bad", errors.New("bad"), api.OK, api.ErrAbort, 7, nil, func() {}, []int{1}, struct{}{}} {
		for at := range 3 {
			b := &spy{under: over(t, c, held())}
			b.run = func(no int, _ api.Stmt, _ []api.Col, _ api.Row) ([]api.Row, api.Errno) {
				if no == at {
					panic(with)
				}
				return nil, api.OK
			}
			o, why := proc.Run(c, b, "f", nil)
			if why != api.ErrPanic || show(o) != show(api.Outcome{}) || b.ran != at+1 {
				t.Errorf("%v in %d: %s %v", with, at, show(o), why)
			}
			if w := b.under.(*proc.Whole); w.Mark() != 0 || !bag.Same(w.Data(), held()) {
				t.Errorf("%v in %d: %d %s", with, at, w.Mark(), show(w.Data()))
			}
			// Back may go wrong then, too.
			b.ran, b.atBack = 0, func() api.Errno { return api.ErrState }
			if o, why := proc.Run(c, b, "f", nil); why != api.ErrPanic || show(o) != show(api.Outcome{}) {
				t.Errorf("%v in %d: %s %v", with, at, show(o), why)
			}
			b.ran, b.atBack = 0, func() api.Errno { panic(with) }
			if o, why := proc.Run(c, b, "f", nil); why != api.ErrPanic || show(o) != show(api.Outcome{}) {
				t.Errorf("%v in %d: %s %v", with, at, show(o), why)
			}
		}
		b := &spy{atMark: func() { panic(with) }}
		if o, why := proc.Run(c, b, "f", nil); why != api.ErrPanic || show(o) != show(api.Outcome{}) || show(b.calls) != "[mark]" {
			t.Errorf("%v in Mark: %s %v %q", with, show(o), why, b.calls)
		}
		b = &spy{atBack: func() api.Errno { panic(with) }}
		if o, why := proc.Run(proced(t, "ABORT 'x' IF TRUE"), b, "f", nil); why != api.ErrPanic || show(o) != show(api.Outcome{}) {
			t.Errorf("%v in Back: %s %v", with, show(o), why)
		}
	}
	if o, why := proc.Run(c, nobody, "f", nil); why != api.ErrPanic || show(o) != show(api.Outcome{}) {
		t.Error("a base that is nobody", o, why)
	}
	// What Bind refuses asks no base that could panic.
	if _, why := proc.Run(c, nobody, "g", nil); why != api.ErrName {
		t.Error(why)
	}
}
