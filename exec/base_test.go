package exec_test

import (
	"fmt"
	"math/rand"
	"slices"
	"testing"

	"lockstep/api"
	"lockstep/bag"
	"lockstep/catalog"
	"lockstep/exec"
	"lockstep/table"
)

var _ api.Base = (*exec.Base)(nil)

// P16.3: New answers Check's error and no base; else one of just these tables, whatever becomes of the list.
func TestNew(t *testing.T) {
	c := made(t, two)
	l := loaded(t, c, data("1, 2, 'x'", ""))
	for _, x := range []struct {
		c *catalog.Catalog
		l []*table.Table
	}{{nil, l}, {nil, nil}, {c, nil}, {c, l[:1]}, {c, append(clones(l), nil)}, {c, []*table.Table{l[0], nil}}, {c, []*table.Table{l[1], l[0]}}} {
		if b, why := exec.New(x.c, x.l); b != nil || why != api.ErrArg {
			t.Errorf("%v: %v %v", x.l, b, why)
		}
	}
	hand := slices.Clone(l)
	b, why := exec.New(c, hand)
	if why != api.OK || b == nil || b.Mark() != 0 {
		t.Fatal(why)
	}
	hand[0], hand[1] = nil, nil
	told := b.Tables()
	if !slices.Equal(told, l) {
		t.Error("its tables are others")
	}
	told[0] = nil
	if !slices.Equal(b.Tables(), l) {
		t.Error("its tables are what was made of the list")
	}
	if _, why := b.Run(stmt(t, "INSERT INTO u (a, d) VALUES (1, 2)"), nil, nil); why != api.OK || l[1].Len() != 1 {
		t.Error("it does not work on its tables", why)
	}
	none, why := exec.New(made(t, ""), nil)
	if why != api.OK || none.Mark() != 0 || len(none.Tables()) != 0 || none.Back(0) != api.OK || none.Back(1) != api.ErrArg {
		t.Error("a base of no tables", why)
	}
	if _, why := none.Run(stmt(t, "SELECT a FROM t"), nil, nil); why != api.ErrName {
		t.Error(why)
	}
}

// base is a base, and what it is to be: what stood at each mark, and which statements came from there.
type base struct {
	t     *testing.T
	c     *catalog.Catalog
	begin []*table.Table
	b     *exec.Base
	held  []string // at each mark
	done  []api.Stmt
	note  string
}

func newBase(t *testing.T, c *catalog.Catalog, l []*table.Table) *base {
	t.Helper()
	b, why := exec.New(c, clones(l))
	if why != api.OK {
		t.Fatal(why)
	}
	return &base{t: t, c: c, begin: l, b: b, held: []string{stateOf(l)}}
}

// run does a statement, and checks Run's answer against bag's, and Mark.
func (b *base) run(s string) api.Errno {
	b.t.Helper()
	b.note += s + "\n"
	x := stmt(b.t, s)
	before := exec.Data(b.b.Tables())
	want, behind, wrong := bag.Run(b.c, before, x, theParams(), theArgs())
	d := clones(b.b.Tables())
	did, didWhy := exec.Do(b.c, d, x, theParams(), theArgs())
	got, why := b.b.Run(x, theParams(), theArgs())
	if why != wrong || show(got) != show(want) || didWhy != why || show(did) != show(got) || stateOf(d) != stateOf(b.b.Tables()) {
		b.t.Errorf("%s: %s %v, not %s %v", b.note, told(got), why, told(want), wrong)
	}
	if why == api.OK && x.Kind != api.Select {
		b.held, b.done = append(b.held, stateOf(b.b.Tables())), append(b.done, x)
	} else {
		behind = before
	}
	if !bag.Same(exec.Data(b.b.Tables()), behind) {
		b.t.Errorf("%s: %s", b.note, stateOf(b.b.Tables()))
	}
	b.stands()
	return why
}

// back takes back, and checks that what stood at the mark stands again.
func (b *base) back(mark int) {
	b.t.Helper()
	b.note += fmt.Sprint("back ", mark, "\n")
	want := api.OK
	if mark < 0 || mark >= len(b.held) {
		want = api.ErrArg
	} else {
		b.held, b.done = b.held[:mark+1], b.done[:mark]
	}
	if why := b.b.Back(mark); why != want {
		b.t.Errorf("%s: Back(%d): %v, not %v", b.note, mark, why, want)
	}
	b.stands()
}

func (b *base) stands() {
	b.t.Helper()
	if b.b.Mark() != len(b.done) {
		b.t.Errorf("%s: Mark is %d, not %d", b.note, b.b.Mark(), len(b.done))
	}
	if got := stateOf(b.b.Tables()); got != b.held[len(b.held)-1] {
		b.t.Errorf("%s: %s, not %s", b.note, got, b.held[len(b.held)-1])
	}
}

// asNew checks that it holds what a new one holds that did just what stands.
func (b *base) asNew() {
	b.t.Helper()
	n, _ := exec.New(b.c, clones(b.begin))
	for _, x := range b.done {
		n.Run(x, theParams(), theArgs())
	}
	if stateOf(n.Tables()) != stateOf(b.b.Tables()) || n.Mark() != b.b.Mark() {
		b.t.Errorf("%s: %s %d, a new one %s %d", b.note, stateOf(b.b.Tables()), b.b.Mark(), stateOf(n.Tables()), n.Mark())
	}
}

// baseStmts are statements of all kinds: those that change something, or nothing, are refused, or only ask.
func baseStmts() []string {
	return []string{
		"INSERT INTO t (a, s) VALUES (7, 'q')", "INSERT INTO t (a, s) VALUES (8, 'q')", "INSERT INTO u (a, d, f) VALUES (:p, :q, :f)",
		"UPDATE t SET a = a + 1, b = a", "UPDATE t SET b = 5 - b WHERE b > 0", "UPDATE u SET d = d + 1 WHERE a = 1",
		"DELETE FROM t WHERE a > 2", "DELETE FROM u", "DELETE FROM t",
		"UPDATE t SET s = 'z' WHERE a > 99", "DELETE FROM u WHERE f = :n",
		"UPDATE t SET a = 1", "UPDATE t SET s = 'long'", "UPDATE t SET b = 1 / (a - a)", "DELETE FROM t WHERE 1 / (a - 2) > 7", "INSERT INTO t (a) VALUES (7)", "SELECT z FROM t",
		"SELECT a, b FROM t ORDER BY b", "SELECT t.a, d FROM t JOIN u ON u.a = t.a",
	}
}

// P16.3, P16.6: all goings of three calls, then Back to each mark that was told; what was refused, and what only asked, does not count.
func TestBaseGoings(t *testing.T) {
	t.Parallel()
	c := made(t, two)
	l := loaded(t, c, data("1, 2, 'x'; 2, NULL, 'y'; 3, 3, 'x'", "1, 1.5, TRUE; 2, 0.5, FALSE"))
	wear(l)
	stmts := baseStmts()
	seen := map[int]int{}
	for i, one := range stmts {
		for k, two := range stmts {
			for n, three := range stmts {
				if (i+k+n)%3 != 0 {
					continue
				}
				b := newBase(t, c, l)
				b.run(one)
				b.run(two)
				if (i*k+n)%4 == 0 {
					b.back((i + k) % 3)
				}
				b.run(three)
				mark := b.b.Mark()
				seen[mark]++
				b.back(-1)
				b.back(mark + 1)
				b.back(mark)
				for mark > 0 {
					mark--
					b.back(mark)
					b.asNew()
				}
				if t.Failed() {
					return
				}
			}
		}
	}
	for mark := range 4 {
		if seen[mark] < 50 {
			t.Errorf("too few with %d changes: %d", mark, seen[mark])
		}
	}
}

// P16.3, P16.6: long goings, with Back to any mark, twice, and statements behind it, are as if what was taken back had never been.
func TestBaseAtRandom(t *testing.T) {
	t.Parallel()
	c := made(t, two)
	r := rand.New(rand.NewSource(163))
	most := 0
	for range 150 {
		l := loaded(t, c, data("1, 2, 'x'; 2, NULL, 'y'", "1, 1.5, TRUE"))
		wear(l)
		b := newBase(t, c, l)
		stmts := baseStmts()
		for range 60 {
			switch r.Intn(7) {
			case 0:
				mark := r.Intn(b.b.Mark()+3) - 1
				b.back(mark)
				b.back(min(mark, b.b.Mark()))
			case 1:
				b.back(max(0, b.b.Mark()-1-r.Intn(3)))
				b.asNew()
			case 2:
				b.run(fmt.Sprintf("INSERT INTO t (a, b, s) VALUES (%d, %d, '%d')", r.Intn(9), r.Intn(9), r.Intn(3)))
			case 3:
				b.run(fmt.Sprintf("UPDATE t SET a = %d - a WHERE a > %d", r.Intn(12), r.Intn(4)-2))
			default:
				b.run(stmts[r.Intn(len(stmts))])
			}
			most = max(most, b.b.Mark())
			if t.Failed() {
				return
			}
		}
		b.back(0)
		b.asNew()
	}
	if most < 20 {
		t.Errorf("never more than %d changes", most)
	}
}

// P16.3: what its tables saw ahead of New stands, and is not taken back.
func TestBaseOfTablesThatChanged(t *testing.T) {
	c := made(t, two)
	l := loaded(t, c, data("1, 2, 'x'", ""))
	l[0].Insert(rows("2, 3, 'y'")[0])
	l[0].Delete(1)
	before := stateOf(l)
	b := newBase(t, c, l)
	b.run("UPDATE t SET a = a + 1")
	b.run("INSERT INTO u (a, d) VALUES (1, 1)")
	b.run("DELETE FROM t")
	b.back(2)
	b.back(1)
	b.back(0)
	if stateOf(b.b.Tables()) != before {
		t.Error(stateOf(b.b.Tables()))
	}
	one, two := newBase(t, c, l), newBase(t, c, l)
	one.run("DELETE FROM t")
	two.run("INSERT INTO t (a, s) VALUES (9, '')")
	if one.b.Mark() != 1 || two.b.Mark() != 1 || one.b.Tables()[0].Len() != 0 || two.b.Tables()[0].Len() != 2 {
		t.Error("two bases know of one another")
	}
}

// P16.3: statements that change nothing but are OK count; those that are refused, or ask, do not.
func TestBaseMark(t *testing.T) {
	c := made(t, two)
	b := newBase(t, c, loaded(t, c, data("1, 2, 'x'", "")))
	for _, x := range []struct {
		s    string
		mark int
	}{
		{"SELECT a FROM t", 0}, {"SELECT z FROM t", 0}, {"INSERT INTO t (a, s) VALUES (1, '')", 0}, {"UPDATE t SET b = 1 / 0", 0}, {"DELETE FROM t WHERE 1 / 0 = 1", 0},
		{"INSERT INTO t (a, s) VALUES (2, '')", 1}, {"UPDATE t SET b = b", 2}, {"UPDATE t SET b = 1 WHERE a = 9", 3}, {"DELETE FROM u", 4}, {"SELECT COUNT(*) FROM t", 4}, {"DELETE FROM t", 5}, {"DELETE FROM t", 6}, {"UPDATE t SET s = 'long' || s", 7},
	} {
		b.run(x.s)
		if b.b.Mark() != x.mark {
			t.Errorf("%s: %d, not %d", x.s, b.b.Mark(), x.mark)
		}
	}
	b.back(3)
	if got := told(exec.Data(b.b.Tables())[0]); got != "1, 2, 'x'; 2, NULL, ''" {
		t.Error(got)
	}
}
