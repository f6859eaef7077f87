package proc_test

import (
	"fmt"
	"math/rand"
	"runtime"
	"slices"
	"strings"
	"testing"

	"lockstep/api"
	"lockstep/bag"
	"lockstep/catalog"
	"lockstep/proc"
)

var _ api.Base = (*proc.Whole)(nil)

// P19.2: Over: ErrArg of no catalog, each error of bag's Check, and no base; else the tables.
func TestOver(t *testing.T) {
	c := made(t, tables)
	many := data("", "1, NULL, NULL, TRUE; 2, NULL, NULL, TRUE; 3, NULL, NULL, TRUE; 4, NULL, NULL, TRUE; 5, NULL, NULL, TRUE")
	for _, x := range []struct {
		c   *catalog.Catalog
		d   api.Data
		why api.Errno
	}{
		{nil, held(), api.ErrArg}, {nil, nil, api.ErrArg}, {nil, many, api.ErrArg},
		{c, nil, api.ErrArg}, {c, data("1, 2"), api.ErrArg}, {c, data("1, 2", "", ""), api.ErrArg}, {c, data("1", ""), api.ErrArg}, {c, data("1, 2, 3", ""), api.ErrArg},
		{c, data("1, 'x'", ""), api.ErrArg}, {c, data("1, 1.0", ""), api.ErrArg}, {c, api.Data{{{num(1), {Type: 9}}}, nil}, api.ErrArg},
		{c, api.Data{nil, {{num(1), null(), text("\xff"), null()}}}, api.ErrArg},
		{c, data("NULL, 2", ""), api.ErrNull}, {c, data("", "1, 1.5, 'long', NULL"), api.ErrLong},
		{c, data("1, 2; 1, 3", ""), api.ErrTwice}, {c, data("", "1, 1.5, 'x', NULL; 2, 1.5, 'x', NULL"), api.ErrTwice},
		{c, many, api.ErrFull},
	} {
		if w, why := proc.Over(x.c, x.d); w != nil || why != x.why || why == api.OK {
			t.Errorf("%s: %v %v, not %v", show(x.d), w, why, x.why)
		}
	}
	many[1] = many[1][:4]
	for _, d := range []api.Data{held(), many, {nil, nil}, {{}, {}}, data("2, 1; 1, 2", "")} {
		w := over(t, c, d)
		if w.Mark() != 0 || show(w.Data()) != show(d) || w.Back(0) != api.OK || w.Back(1) != api.ErrArg || w.Back(-1) != api.ErrArg {
			t.Errorf("%s: %d %s", show(d), w.Mark(), show(w.Data()))
		}
	}
	none := over(t, made(t, ""), nil)
	if _, why := none.Run(stmt(t, "SELECT a FROM t"), nil, nil); why != api.ErrName || len(none.Data()) != 0 || none.Mark() != 0 {
		t.Error("no tables", why)
	}
}

// going is a base, and what it is to be: the tables at each mark.
type going struct {
	t    *testing.T
	c    *catalog.Catalog
	w    *proc.Whole
	held []api.Data
	note string
}

func newGoing(t *testing.T, c *catalog.Catalog, d api.Data) *going {
	t.Helper()
	return &going{t: t, c: c, w: over(t, c, d), held: []api.Data{d}}
}

// theParams are parameters of each type, and one that is NULL; their values are theArgs.
func theParams() []api.Col {
	return []api.Col{col("p", api.BigInt), col("q", api.Dec), col("r", api.Text), col("f", api.Bool), col("n", api.BigInt)}
}

func theArgs() api.Row { return api.Row{num(1), dec(15000), text("x"), truth(1), null()} }

// run does a statement, and checks what it answers against bag, and what stands behind it.
func (g *going) run(s string) ([]api.Row, api.Errno) {
	g.t.Helper()
	g.note += s + "\n"
	x := stmt(g.t, s)
	want, behind, wrong := bag.Run(g.c, g.held[len(g.held)-1], x, theParams(), theArgs())
	got, why := g.w.Run(x, theParams(), theArgs())
	if why != wrong || show(got) != show(want) {
		g.t.Errorf("%s: %s %v, not %s %v", short(g.note), short(told(got)), why, short(told(want)), wrong)
	}
	if wrong == api.OK && x.Kind != api.Select {
		g.held = append(g.held, behind)
	}
	g.stands()
	return got, why
}

// back takes back, and checks that what stood at the mark stands again.
func (g *going) back(mark int) {
	g.t.Helper()
	g.note += fmt.Sprint("back ", mark, "\n")
	want := api.ErrArg
	if mark >= 0 && mark < len(g.held) {
		want, g.held = api.OK, g.held[:mark+1]
	}
	if why := g.w.Back(mark); why != want {
		g.t.Errorf("%s: %v, not %v", short(g.note), why, want)
	}
	g.stands()
}

func (g *going) stands() {
	g.t.Helper()
	if g.w.Mark() != len(g.held)-1 {
		g.t.Errorf("%s: Mark is %d, not %d", short(g.note), g.w.Mark(), len(g.held)-1)
	}
	if want := g.held[len(g.held)-1]; !bag.Same(g.w.Data(), want) {
		g.t.Errorf("%s: %s, not %s", short(g.note), short(show(g.w.Data())), short(show(want)))
	}
}

// P19.2: what statements answer, and Mark behind each: those that changed something, or were OK and would have, count; those that are refused, or ask, do not.
func TestWholeRun(t *testing.T) {
	g := newGoing(t, made(t, tables), held())
	for _, x := range []struct {
		s, want string
		why     api.Errno
		mark    int
	}{
		{"SELECT id, bal FROM acc ORDER BY bal", "3, NULL; 2, 0; 1, 5", api.OK, 0},
		{"SELECT z FROM acc", "", api.ErrName, 0},
		{"SELECT 1 / 0 FROM acc", "", api.ErrZero, 0},
		{"INSERT INTO acc (id) VALUES (1)", "", api.ErrTwice, 0},
		{"INSERT INTO acc (id, bal) VALUES (7, :p + 1)", "1", api.OK, 1},
		{"INSERT INTO none (id) VALUES (8)", "", api.ErrName, 1},
		{"UPDATE acc SET bal = 1 / bal", "", api.ErrZero, 1},
		{"UPDATE acc SET bal = bal + 1", "4", api.OK, 2},
		{"SELECT id, bal FROM acc ORDER BY id", "1, 6; 2, 1; 3, NULL; 7, 3", api.OK, 2},
		{"UPDATE acc SET bal = 1 WHERE id > 7", "0", api.OK, 3},
		{"UPDATE acc SET bal = bal", "4", api.OK, 4},
		{"DELETE FROM u WHERE s = :r", "1", api.OK, 5},
		{"DELETE FROM u WHERE s = :r", "0", api.OK, 6},
		{"DELETE FROM u WHERE 1 / (a - 2) = 1", "", api.ErrZero, 6},
		{"UPDATE u SET a = NULL", "", api.ErrNull, 6},
		{"UPDATE u SET s = 'long'", "", api.ErrLong, 6},
		{"UPDATE u SET a = a + 1, d = :q", "1", api.OK, 7},
		{"SELECT a, d, s, f FROM u", "3, 1.5, NULL, NULL", api.OK, 7},
		{"SELECT a FROM u WHERE a > 3", "", api.OK, 7},
		{"INSERT INTO u (a) VALUES (4)", "1", api.OK, 8},
		{"INSERT INTO u (a) VALUES (5)", "1", api.OK, 9},
		{"INSERT INTO u (a) VALUES (6)", "1", api.OK, 10},
		{"INSERT INTO u (a) VALUES (7)", "", api.ErrFull, 10},
		{"DELETE FROM u", "4", api.OK, 11},
		{"DELETE FROM acc", "4", api.OK, 12},
		{"SELECT COUNT(*) FROM acc", "0", api.OK, 12},
	} {
		if got, why := g.run(x.s); why != x.why || told(got) != x.want || g.w.Mark() != x.mark {
			t.Errorf("%s: %s %v %d", x.s, told(got), why, g.w.Mark())
		}
	}
	for _, mark := range []int{13, 99, -1, -1 << 63, 1<<63 - 1, 12, 12, 11, 8, 9, 7, 7, 2, 3, 1, 0, 0, 1, -1} {
		g.back(mark)
	}
	// A mark that was taken back is none any more, but comes again.
	g.run("DELETE FROM acc WHERE id = 1")
	g.back(2)
	g.run("DELETE FROM acc WHERE id = 2")
	g.back(1)
	g.back(2)
	g.back(0)
}

// P19.2: what is wrong with a statement, its parameters, its arguments, is bag's answer, and changes nothing.
func TestWholeRefuses(t *testing.T) {
	c := made(t, tables)
	w := over(t, c, held())
	w.Run(stmt(t, "DELETE FROM acc WHERE id = 1"), nil, nil)
	before := show(w.Data())
	del := stmt(t, "DELETE FROM acc WHERE id = :p")
	for _, x := range []struct {
		x      api.Stmt
		params []api.Col
		args   api.Row
		why    api.Errno
	}{
		{api.Stmt{}, nil, nil, api.ErrArg}, {api.Stmt{Kind: 5, Table: "acc"}, nil, nil, api.ErrArg}, {api.Stmt{Kind: api.Delete}, nil, nil, api.ErrArg},
		{stmt(t, "DELETE FROM proc"), nil, nil, api.ErrName}, {stmt(t, "UPDATE acc SET z = 1"), nil, nil, api.ErrName}, {stmt(t, "UPDATE acc SET id = TRUE"), nil, nil, api.ErrType},
		{del, nil, nil, api.ErrParam}, {del, []api.Col{col("q", api.BigInt)}, api.Row{num(2)}, api.ErrParam}, {del, []api.Col{col("p", api.Text)}, api.Row{text("x")}, api.ErrType},
		{del, []api.Col{col("p", api.BigInt)}, nil, api.ErrArg}, {del, []api.Col{col("p", api.BigInt)}, api.Row{dec(2)}, api.ErrArg}, {del, []api.Col{col("p", 0)}, api.Row{null()}, api.ErrArg},
		{del, []api.Col{col("p", api.BigInt)}, api.Row{num(2), num(2)}, api.ErrArg}, {del, []api.Col{col("p", api.BigInt), col("p", api.BigInt)}, api.Row{num(2), num(2)}, api.ErrArg},
	} {
		if got, why := w.Run(x.x, x.params, x.args); why != x.why || got != nil || w.Mark() != 1 || show(w.Data()) != before {
			t.Errorf("%s: %v %v, not %v", show(x.x), got, why, x.why)
		}
	}
}

// wholeStmts change a table in all ways: rows at its begin, its end, between, apart from one another, all, none.
func wholeStmts() []string {
	return []string{
		"INSERT INTO acc (id, bal) VALUES (9, :p)", "INSERT INTO acc (id) VALUES (-1)", "INSERT INTO u (a, d, f) VALUES (:p + 6, :q, :f)",
		"DELETE FROM acc WHERE id < 2", "DELETE FROM acc WHERE id > 2", "DELETE FROM acc WHERE id = 2", "DELETE FROM acc WHERE id <> 2", "DELETE FROM acc", "DELETE FROM u WHERE f = :n", "DELETE FROM u",
		"UPDATE acc SET bal = 7 WHERE id = 1", "UPDATE acc SET bal = 8 WHERE id = 3", "UPDATE acc SET bal = 9 WHERE id <> 2", "UPDATE acc SET id = 4 - id", "UPDATE acc SET bal = bal", "UPDATE acc SET id = id + 1", "UPDATE u SET d = d + 1, s = 'z' WHERE a = 1",
		"UPDATE acc SET id = 1", "UPDATE u SET s = 'long'", "DELETE FROM acc WHERE 1 / (id - 2) > 7", "INSERT INTO acc (id) VALUES (1)", "SELECT z FROM acc",
		"SELECT id, bal FROM acc ORDER BY bal", "SELECT id, d FROM acc JOIN u ON a = id",
	}
}

// P19.2: all goings of three statements, then Back to each mark.
func TestGoings(t *testing.T) {
	t.Parallel()
	c := made(t, tables)
	stmts := wholeStmts()
	for i, one := range stmts {
		for k, two := range stmts {
			for n, three := range stmts {
				if (i+k+n)%3 != 0 {
					continue
				}
				g := newGoing(t, c, held())
				g.run(one)
				g.run(two)
				if (i*k+n)%4 == 0 {
					g.back((i + k) % 3)
				}
				g.run(three)
				g.back(-1)
				g.back(g.w.Mark() + 1)
				for mark := g.w.Mark(); mark >= 0; mark-- {
					g.back(mark)
				}
				if t.Failed() {
					return
				}
			}
		}
	}
}

// P19.2: long goings, with Back to any mark.
func TestGoingsAtRandom(t *testing.T) {
	t.Parallel()
	c := made(t, tables)
	r := rand.New(rand.NewSource(192))
	most := 0
	for range 60 {
		g := newGoing(t, c, held())
		stmts := wholeStmts()
		for range 80 {
			switch r.Intn(8) {
			case 0:
				g.back(r.Intn(g.w.Mark()+3) - 1)
			case 1:
				g.back(max(0, g.w.Mark()-1-r.Intn(3)))
			case 2, 3:
				g.run(fmt.Sprintf("INSERT INTO acc (id, bal) VALUES (%d, %d)", r.Intn(30), r.Intn(9)))
			case 4:
				g.run(fmt.Sprintf("UPDATE acc SET bal = %d WHERE id / %d = %d", r.Intn(12), 1+r.Intn(4), r.Intn(4)))
			case 5:
				g.run(fmt.Sprintf("DELETE FROM acc WHERE id = %d OR id = %d", r.Intn(30), r.Intn(30)))
			default:
				g.run(stmts[r.Intn(len(stmts))])
			}
			most = max(most, g.w.Mark())
			if t.Failed() {
				return
			}
		}
		g.back(0)
	}
	if most < 20 {
		t.Errorf("never more than %d changes", most)
	}
}

// P19.2: two bases know nothing of one another.
func TestTwoBases(t *testing.T) {
	c, d := made(t, tables), held()
	one, two := over(t, c, d), over(t, c, d)
	one.Run(stmt(t, "DELETE FROM acc"), nil, nil)
	two.Run(stmt(t, "UPDATE acc SET bal = 1"), nil, nil)
	two.Run(stmt(t, "DELETE FROM u"), nil, nil)
	one.Back(0)
	if one.Mark() != 0 || two.Mark() != 2 || !bag.Same(one.Data(), d) || !bag.Same(two.Data(), data("1, 1; 2, 1; 3, 1", "")) {
		t.Error(one.Data(), two.Data())
	}
}

// What is kept of many small changes of a great table is small.
func TestWholeKeepsLittle(t *testing.T) {
	c := made(t, tables)
	var l []api.Row
	for i := range 3000 {
		l = append(l, api.Row{num(int64(i)), num(0)})
	}
	w := over(t, c, api.Data{l, nil})
	for _, s := range []string{
		"INSERT INTO acc (id, bal) VALUES (:p + 10000, :p)", "UPDATE acc SET bal = 1 WHERE id = :p * 2", "DELETE FROM acc WHERE id = 3000 - :p", "DELETE FROM acc WHERE id = :p",
	} {
		stood := heap()
		for i := range 100 {
			if got, why := w.Run(stmt(t, s), []api.Col{col("p", api.BigInt)}, api.Row{num(int64(i) + 1)}); why != api.OK || told(got) != "1" {
				t.Fatal(s, told(got), why)
			}
		}
		if more := int(heap()) - int(stood); more > 4<<20 {
			t.Errorf("%s: %d bytes more", s, more)
		}
	}
	if w.Mark() != 400 || w.Back(0) != api.OK || show(w.Data()[0]) != show(l) {
		t.Error(w.Mark(), len(w.Data()[0]))
	}
	runtime.KeepAlive(w)
}

func heap() uint64 {
	runtime.GC()
	var m runtime.MemStats
	runtime.ReadMemStats(&m)
	return m.HeapAlloc
}

// P19.2: of many tables each is at its own place.
func TestManyTables(t *testing.T) {
	var decls []string
	d := api.Data{}
	for i := range 40 {
		decls = append(decls, fmt.Sprintf("CREATE TABLE t%02d (a BIGINT, PRIMARY KEY (a));", i))
		d = append(d, []api.Row{{num(int64(i))}})
	}
	slices.Reverse(decls)
	g := newGoing(t, made(t, strings.Join(decls, "\n")), d)
	for i := range 40 {
		no := (i*7 + 3) % 40
		g.run(fmt.Sprintf("UPDATE t%02d SET a = a + 100", no))
		g.run(fmt.Sprintf("SELECT a FROM t%02d", no))
		if got := g.w.Data()[no]; told(got) != fmt.Sprint(no+100) {
			t.Error(no, told(got))
		}
	}
	for _, mark := range []int{33, 17, 16, 2, 0} {
		g.back(mark)
	}
}
